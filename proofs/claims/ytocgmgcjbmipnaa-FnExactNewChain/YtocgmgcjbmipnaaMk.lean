/- The marks that the laws write into lists, and the looks that they are there. The marks of signatures and numbers, and of whole ledgers. The marks of whole ledgers and of results that hold one; results compared. -/
import Derived.Test.YtocgmgcjbmipnaaIdOf
namespace Go.Proofs.Ytocgmgcjbmipnaa
open Go.RowKit Go.Maps Go.WideMaps

/-- The digits of a number ahead of what is there. -/
def digT (k : Nat) (acc : ByteArray) : ByteArray := if _h : k = 0 then acc else digT (k / 10) (⟨#[48 + UInt8.ofNat (k % 10)]⟩ ++ acc)
termination_by k
decreasing_by omega

theorem digT_zero (acc : ByteArray) : digT 0 acc = acc := by unfold digT; rfl
theorem digT_step (k : Nat) (acc : ByteArray) (h : ¬ k = 0) : digT k acc = digT (k / 10) (⟨#[48 + UInt8.ofNat (k % 10)]⟩ ++ acc) := by rw [digT, dif_neg h]

/-- The mark of a number. -/
def mkT (k : Nat) : ByteArray := ⟨#[109]⟩ ++ digT k ⟨#[]⟩

set_option maxRecDepth 20000 in
set_option maxHeartbeats 400000 in
theorem markText_any (k : Nat) (w : World) (h0 : 0 < k) (h1 : k ≤ 4000000) :
    Calls Try.prog 42 #[.int .i64 k] w fun e w' => e = .returned (.string (mkT k)) ∧ Below w.heap.size w w' := by
  go_enter Try.func42, Try.ntmps42
  go_wp2
  go_loopw [0, 3] (fun a o wr => ∃ (j : Nat) (s : ByteArray), a = .int .i64 j ∧ o = .string s ∧ j + s.size ≤ k ∧ Hid (digT k ⟨#[]⟩ = digT j s) ∧ Below w.heap.size w wr) (fun a _ _ => (intOf a).toNat)
  case atStart => exact ⟨k, ⟨#[]⟩, rfl, rfl, by simp [ByteArray.size], rfl, Below.refl _ _⟩
  case round =>
    obtain ⟨j, s, rfl, rfl, hle, hinv, hbel⟩ := hrel
    by_cases hj : j = 0
    · subst hj
      go_wp2
      go_ret
      exact ⟨by rw [mkT, hinv.out, digT_zero]; rfl, hbel⟩
    · have hj0 : 0 < j := by omega
      have hcv : (convert 110 9 (.slice (some ⟨wr.heap.size, 0, none⟩) 1 1)).run Try.prog (wr.alloc (.cells #[.int .u8 (48 + (j : Int) % 10)] 5)) = .ok (.string ⟨#[UInt8.ofNat (48 + j % 10)]⟩) (wr.alloc (.cells #[.int .u8 (48 + (j : Int) % 10)] 5)) := by
        refine run_convert_bytes_back (P := Try.prog) _ 110 9 5 ⟨wr.heap.size, 0, none⟩ 1 [UInt8.ofNat (48 + j % 10)] Try.underlying110 Try.underlying5 Try.underlying9 ?_
        intro i hi
        have hi0 : i = 0 := by simpa using hi
        subst hi0
        simp [Addr.add]
        omega
      go_wp2
      go_roundw
      case rel =>
        refine ⟨j / 10, ⟨#[48 + UInt8.ofNat (j % 10)]⟩ ++ s, by go_num, rfl, ?_, ?_, hbel.alloc hbel.size _⟩
        · rw [ByteArray.size_append]
          have : (⟨#[48 + UInt8.ofNat (j % 10)]⟩ : ByteArray).size = 1 := rfl
          omega
        · show digT k _ = _
          rw [hinv.out, digT_step j s hj]
      case measure => simp [intOf]; omega

/-- Only blocks from 'lo' to 'hi' may have turned. -/
structure Chg (w w' : World) (lo hi : Nat) : Prop where
  os : w'.os = w.os
  tape : w'.tape = w.tape
  output : w'.output = w.output
  size : w.heap.size ≤ w'.heap.size
  block : ∀ b, b < w.heap.size → (b < lo ∨ hi ≤ b) → w'.heap[b]? = w.heap[b]?

theorem Chg.of_below {w w' : World} (h : Below w.heap.size w w') (lo hi : Nat) : Chg w w' lo hi := ⟨h.os, h.tape, h.output, h.size, fun b hb _ => h.block b hb⟩
theorem Chg.of_grown {w w' : World} {row : Option Nat} {lo hi : Nat} (h : w.grownBy w' row) (hr : ∀ k, row = some k → lo ≤ k ∧ k < hi) : Chg w w' lo hi :=
  ⟨h.os, h.tape, h.output, h.size, fun b hb ho => h.block b hb (fun e => by have := hr b e.symm; omega)⟩
theorem Chg.trans {w w' w2 : World} {lo hi : Nat} (h : Chg w w' lo hi) (k : Chg w' w2 lo hi) : Chg w w2 lo hi :=
  ⟨k.os.trans h.os, k.tape.trans h.tape, k.output.trans h.output, Nat.le_trans h.size k.size, fun b hb ho => (k.block b (Nat.lt_of_lt_of_le hb h.size) ho).trans (h.block b hb ho)⟩
theorem Chg.below {w w' : World} {lo hi B : Nat} (h : Chg w w' lo hi) (hB : B ≤ lo) (hs : B ≤ w.heap.size) : Below B w w' := ⟨h.os, h.tape, h.output, h.size, fun k hk => h.block k (by omega) (by omega)⟩
theorem Chg.keep {w w' : World} {lo hi b : Nat} {o : Obj} (h : Chg w w' lo hi) (hb : w.heap[b]? = some o) (ho : b < lo ∨ hi ≤ b) : w'.heap[b]? = some o := (h.block b (lt_of_block hb) ho).trans hb
theorem Chg.row {w w' : World} {lo hi : Nat} (h : Chg w w' lo hi) {base : Nat} {e : TypeId} {size : Nat} {v : Value} {n : Nat} {xs : List Value} (ho : w.ownsRow base e size v n xs) (hv : ∀ k, v.ownBlock = some k → k < lo ∨ hi ≤ k) : w'.ownsRow base e size v n xs := by
  refine ⟨ho.1, ?_⟩
  rcases ho.2 with hn | ⟨g, cap, cur, rfl, hb, hgg, rest⟩
  · exact .inl hn
  · exact .inr ⟨g, cap, cur, rfl, hb, h.keep hgg (hv g rfl), rest⟩

def mkL (k n : Nat) : List Value := (List.range n).map fun j => .string (mkT (k + j))
def mkG (k n : Nat) : List Value := (List.range n).flatMap fun j => [.int .i64 (k + 2 * j : Nat), .int .i64 (k + 2 * j + 1 : Nat)]

theorem mkL_of {xs : List Value} {k n : Nat} (hl : xs.length = n * 1) (h : ∀ j, j < n → xs[j]? = some (.string (mkT (k + j)))) : xs = mkL k n := by
  apply List.ext_getElem?
  intro j
  by_cases hj : j < n
  · rw [h j hj]; simp [mkL, hj]
  · rw [List.getElem?_eq_none (by omega), List.getElem?_eq_none (by simp [mkL]; omega)]
theorem mkL_at {k n j : Nat} (hj : j < n) : (mkL k n)[j]? = some (.string (mkT (k + j))) := by simp [mkL, hj]

theorem markS_round {w wr w2 : World} {base g n cap j k : Nat} (hlt : j < n) (hg : w.grownBy wr (some g))
    (hx : ∃ xs, wr.ownsRow base 9 1 (.slice (some ⟨g, 0, none⟩) n cap) n xs ∧ ∀ t, t < j → xs[t]? = some (.string (mkT (k + t)))) (hb : Below wr.heap.size wr w2) :
    ∃ u, w2.cell? ⟨g, j, none⟩ = some u ∧ w2.frozen? ⟨g, j, none⟩ = false ∧
      Hid (w.grownBy (w2.setCell ⟨g, j, none⟩ (.string (mkT (k + j)))) (some g) ∧ ∃ xs, (w2.setCell ⟨g, j, none⟩ (.string (mkT (k + j)))).ownsRow base 9 1 (.slice (some ⟨g, 0, none⟩) n cap) n xs ∧ ∀ t, t < j + 1 → xs[t]? = some (.string (mkT (k + t)))) := by
  obtain ⟨xs, ho, hxs⟩ := hx
  have ho2 := ho.kept (grown_of_below hb) (by simp [Value.ownBlock])
  have hxl := ho2.1
  obtain ⟨r1, r2⟩ := ho2.stored j (.string (mkT (k + j)))
  refine ⟨_, (ho2.cellAt j (by omega)).trans (List.getElem?_eq_getElem (by omega)), ho2.frozenAt j, ?_, _, r1, fun t ht => ?_⟩
  · exact ⟨r2.os.trans (hb.os.trans hg.os), r2.tape.trans (hb.tape.trans hg.tape), r2.output.trans (hb.output.trans hg.output), Nat.le_trans hg.size (Nat.le_trans hb.size r2.size),
      fun b hbl hne => (r2.block b (Nat.lt_of_lt_of_le hbl (Nat.le_trans hg.size hb.size)) hne).trans ((hb.block b (Nat.lt_of_lt_of_le hbl hg.size)).trans (hg.block b hbl hne))⟩
  · by_cases e : j = t
    · subst e; rw [List.getElem?_set_self (by omega)]
    · rw [List.getElem?_set_ne e, hxs t (by omega)]

set_option maxHeartbeats 400000 in
theorem markS_any (v : Value) (n base k : Nat) (xs : List Value) (w : World) (hk : 0 < k) (hkn : k + n ≤ 4000000) (ho : w.ownsRow base 9 1 v n xs) :
    Calls Try.prog 25 #[v, .int .i64 k] w fun e w' => e = .returned (.int .i64 (k + n : Nat)) ∧ w'.ownsRow base 9 1 v n (mkL k n) ∧ w.grownBy w' v.ownBlock := by
  rcases id ho.2 with ⟨rfl, rfl⟩ | ⟨g, cap, cur, rfl, hbg, hgg, hnc, hcm, _⟩
  · go_enter Try.func25, Try.ntmps25
    go_wp2
    refine wp_loop_rounds 1 ?_
    rw [rounds_succ]
    go_wp2
    go_ret
    exact ⟨rfl, World.ownsRow_nil _ _ _ _, World.grownBy.refl _ _⟩
  · have HO : Hid (w.ownsRow base 9 1 (.slice (some ⟨g, 0, none⟩) n cap) n xs) := ho
    clear ho hbg hgg hnc hcm
    go_enter Try.func25, Try.ntmps25
    go_wp2
    go_loopw [1, 5] (fun a i wr => ∃ j : Nat, j ≤ n ∧ i = .int .i64 j ∧ a = .int .i64 (k + j : Nat) ∧ Hid (w.grownBy wr (some g)) ∧ Hid (∃ xs, wr.ownsRow base 9 1 (.slice (some ⟨g, 0, none⟩) n cap) n xs ∧ ∀ t, t < j → xs[t]? = some (.string (mkT (k + t))))) (fun _ i _ => n - (intOf i).toNat)
    case atStart => exact ⟨0, Nat.zero_le _, rfl, rfl, World.grownBy.refl _ _, xs, HO.out, fun t ht => by omega⟩
    case round =>
      obtain ⟨j, hj, rfl, rfl, HG, HX⟩ := hrel
      by_cases hlt : j < n
      · go_wp2_with (first | (go_at_call 42; refine (markText_any (k + j) _ (by omega) (by omega)).mono ?_; rintro e w2 ⟨rfl, hb2⟩; obtain ⟨u, cg, fg, HR⟩ := markS_round hlt HG.out HX.out hb2))
        go_roundw
        case rel => exact ⟨j + 1, by omega, by go_num, by go_num, HR.out.1, HR.out.2⟩
        case measure => simp [intOf]; omega
      · go_wp2
        go_ret
        obtain ⟨ys, h1, h2⟩ := HX.out
        have hjn : j = n := by omega
        subst hjn
        refine ⟨rfl, ?_, HG.out⟩
        rw [← mkL_of h1.1 h2]
        exact h1

set_option maxHeartbeats 400000 in
theorem heldS_any (v : Value) (n base k : Nat) (w : World) (hk : 0 < k) (hkn : k + n ≤ 4000000) (ho : w.ownsRow base 9 1 v n (mkL k n)) :
    Calls Try.prog 66 #[v, .int .i64 k] w fun e w' => e = .returned (.int .i64 (k + n : Nat)) ∧ Below w.heap.size w w' := by
  rcases id ho.2 with ⟨rfl, rfl⟩ | ⟨g, cap, cur, rfl, hbg, hgg, hnc, hcm, _⟩
  · go_enter Try.func66, Try.ntmps66
    go_wp2
    refine wp_loop_rounds 1 ?_
    rw [rounds_succ]
    go_wp2
    go_ret
    exact ⟨rfl, Below.refl _ _⟩
  · have HO : Hid (w.ownsRow base 9 1 (.slice (some ⟨g, 0, none⟩) n cap) n (mkL k n)) := ho
    have hgl : g < w.heap.size := lt_of_block hgg
    clear ho hbg hgg hnc hcm
    go_enter Try.func66, Try.ntmps66
    go_wp2
    go_loopw [1, 5] (fun a i wr => ∃ j : Nat, j ≤ n ∧ i = .int .i64 j ∧ a = .int .i64 (k + j : Nat) ∧ Below w.heap.size w wr) (fun _ i _ => n - (intOf i).toNat)
    case atStart => exact ⟨0, Nat.zero_le _, rfl, rfl, Below.refl _ _⟩
    case round =>
      obtain ⟨j, hj, rfl, rfl, hbel⟩ := hrel
      by_cases hlt : j < n
      · have hc : wr.cell? ⟨g, j, none⟩ = some (.string (mkT (k + j))) := (hbel.cell (p := ⟨g, j, none⟩) hgl).trans ((HO.out.cellAt j (by omega)).trans (mkL_at hlt))
        have hgw : g < wr.heap.size := Nat.lt_of_lt_of_le hgl hbel.size
        have hji : (j : Int) < (n : Int) := by omega
        have hmt : ∀ t, Calls Try.prog 42 #[.int .i64 ((k : Int) + (j : Int))] (wr.drewN t) fun e w' => e = .returned (.string (mkT (k + j))) ∧ Below wr.heap.size wr w' := fun t => by
          have := (markText_any (k + j) (wr.drewN t) (by omega) (by omega)).mono fun e w' h => (⟨h.1, (Joins.below_draws _ wr t).trans h.2⟩ : e = .returned (.string (mkT (k + j))) ∧ Below wr.heap.size wr w')
          simpa using this
        go_wp2
        go_region_held3 (fun w' => w'.cell? ⟨g, j, none⟩ = some (.string (mkT (k + j)))) (go_keep)
          (first | (go_at_call 42; refine (hmt 1).mono ?_; rintro e w2 ⟨rfl, hb2⟩; have z0 := (hb2.cell (p := ⟨g, j, none⟩) hgw).trans hc))
        go_wp2
        go_roundw
        case rel => exact ⟨j + 1, by omega, by go_num, by go_num, hbel.trans (hb2.mono hbel.size)⟩
        case measure => simp [intOf]; omega
      · go_wp2
        go_ret
        have hjn : j = n := by omega
        subst hjn
        exact ⟨rfl, hbel⟩

end Go.Proofs.Ytocgmgcjbmipnaa

namespace Go.Proofs.Ytocgmgcjbmipnaa
open Go.RowKit Go.Maps Go.WideMaps

theorem mkG_length (k n : Nat) : (mkG k n).length = n * 2 := by
  induction n with
  | zero => rfl
  | succ n ih =>
    have e : mkG k (n + 1) = mkG k n ++ [.int .i64 (k + 2 * n : Nat), .int .i64 (k + 2 * n + 1 : Nat)] := by simp [mkG, List.range_succ]
    rw [e]; simp [ih]; omega

theorem mkG_at {k n j : Nat} (hj : j < n) : (mkG k n)[j * 2]? = some (.int .i64 (k + 2 * j : Nat)) ∧ (mkG k n)[j * 2 + 1]? = some (.int .i64 (k + 2 * j + 1 : Nat)) := by
  induction n with
  | zero => omega
  | succ n ih =>
    have e : mkG k (n + 1) = mkG k n ++ [.int .i64 (k + 2 * n : Nat), .int .i64 (k + 2 * n + 1 : Nat)] := by simp [mkG, List.range_succ]
    have hl := mkG_length k n
    rw [e]
    by_cases h : j < n
    · rw [List.getElem?_append_left (by omega), List.getElem?_append_left (by omega)]
      exact ih h
    · have hjn : j = n := by omega
      subst hjn
      rw [List.getElem?_append_right (by omega), List.getElem?_append_right (by omega), hl]
      constructor
      · simp
      · rw [show j * 2 + 1 - j * 2 = 1 by omega]; rfl

theorem mkG_of {xs : List Value} {k n : Nat} (hl : xs.length = n * 2) (h : ∀ j, j < n → xs[j * 2]? = some (.int .i64 (k + 2 * j : Nat)) ∧ xs[j * 2 + 1]? = some (.int .i64 (k + 2 * j + 1 : Nat))) : xs = mkG k n := by
  apply List.ext_getElem?
  intro j
  by_cases hj : j < n * 2
  · have h1 := h (j / 2) (by omega)
    have h2 := mkG_at (k := k) (n := n) (j := j / 2) (by omega)
    rcases Nat.mod_two_eq_zero_or_one j with e | e
    · rw [show j = j / 2 * 2 by omega, h1.1, h2.1]
    · rw [show j = j / 2 * 2 + 1 by omega, h1.2, h2.2]
  · rw [List.getElem?_eq_none (by omega), List.getElem?_eq_none (by rw [mkG_length]; omega)]

theorem markG_round {w wr : World} {base g n cap j k : Nat} (hlt : j < n) (hg : w.grownBy wr (some g))
    (hx : ∃ xs, wr.ownsRow base 71 2 (.slice (some ⟨g, 0, none⟩) n cap) n xs ∧ ∀ t, t < j → xs[t * 2]? = some (.int .i64 (k + 2 * t : Nat)) ∧ xs[t * 2 + 1]? = some (.int .i64 (k + 2 * t + 1 : Nat))) {a b : Int} (ha : a = (k + 2 * j : Nat)) (hb : b = (k + 2 * j + 1 : Nat)) :
    ∃ u v, wr.cell? ⟨g, j * 2, none⟩ = some u ∧ wr.cell? ⟨g, j * 2 + 1, none⟩ = some v ∧ wr.frozen? ⟨g, j * 2, none⟩ = false ∧ wr.frozen? ⟨g, j * 2 + 1, none⟩ = false ∧
      Hid (w.grownBy ((wr.setCell ⟨g, j * 2, none⟩ (.int .i64 a)).setCell ⟨g, j * 2 + 1, none⟩ (.int .i64 b)) (some g) ∧
        ∃ xs, ((wr.setCell ⟨g, j * 2, none⟩ (.int .i64 a)).setCell ⟨g, j * 2 + 1, none⟩ (.int .i64 b)).ownsRow base 71 2 (.slice (some ⟨g, 0, none⟩) n cap) n xs ∧ ∀ t, t < j + 1 → xs[t * 2]? = some (.int .i64 (k + 2 * t : Nat)) ∧ xs[t * 2 + 1]? = some (.int .i64 (k + 2 * t + 1 : Nat))) := by
  subst ha hb
  obtain ⟨xs, ho, hxs⟩ := hx
  have hxl := ho.1
  obtain ⟨r1, r2⟩ := ho.stored (j * 2) (.int .i64 (k + 2 * j : Nat))
  obtain ⟨s1, s2⟩ := r1.stored (j * 2 + 1) (.int .i64 (k + 2 * j + 1 : Nat))
  refine ⟨_, _, (ho.cellAt (j * 2) (by omega)).trans (List.getElem?_eq_getElem (by omega)), (ho.cellAt (j * 2 + 1) (by omega)).trans (List.getElem?_eq_getElem (by omega)), ho.frozenAt _, ho.frozenAt _, ?_, _, s1, fun t ht => ?_⟩
  · exact ⟨s2.os.trans (r2.os.trans hg.os), s2.tape.trans (r2.tape.trans hg.tape), s2.output.trans (r2.output.trans hg.output), Nat.le_trans hg.size (Nat.le_trans r2.size s2.size),
      fun b hbl hne => (s2.block b (Nat.lt_of_lt_of_le hbl (Nat.le_trans hg.size r2.size)) hne).trans ((r2.block b (Nat.lt_of_lt_of_le hbl hg.size) hne).trans (hg.block b hbl hne))⟩
  · by_cases e : j = t
    · subst e
      constructor
      · rw [List.getElem?_set_ne (by omega), List.getElem?_set_self (by omega)]
      · rw [List.getElem?_set_self (by simp; omega)]
    · have := hxs t (by omega)
      constructor
      · rw [List.getElem?_set_ne (by omega), List.getElem?_set_ne (by omega)]; exact this.1
      · rw [List.getElem?_set_ne (by omega), List.getElem?_set_ne (by omega)]; exact this.2

set_option maxHeartbeats 400000 in
theorem markG_any (v : Value) (n base k : Nat) (xs : List Value) (w : World) (hkn : k + n ≤ 4000000) (ho : w.ownsRow base 71 2 v n xs) :
    Calls Try.prog 26 #[v, .int .i64 k] w fun e w' => e = .returned (.int .i64 (k + 2 * n : Nat)) ∧ w'.ownsRow base 71 2 v n (mkG k n) ∧ w.grownBy w' v.ownBlock := by
  rcases id ho.2 with ⟨rfl, rfl⟩ | ⟨g, cap, cur, rfl, hbg, hgg, hnc, hcm, _⟩
  · go_enter Try.func26, Try.ntmps26
    go_wp2
    refine wp_loop_rounds 1 ?_
    rw [rounds_succ]
    go_wp2
    go_ret
    exact ⟨rfl, World.ownsRow_nil _ _ _ _, World.grownBy.refl _ _⟩
  · have HO : Hid (w.ownsRow base 71 2 (.slice (some ⟨g, 0, none⟩) n cap) n xs) := ho
    clear ho hbg hgg hnc hcm
    go_enter Try.func26, Try.ntmps26
    go_wp2
    go_loopw [1, 5] (fun a i wr => ∃ j : Nat, j ≤ n ∧ i = .int .i64 j ∧ a = .int .i64 (k + 2 * j : Nat) ∧ Hid (w.grownBy wr (some g)) ∧ Hid (∃ xs, wr.ownsRow base 71 2 (.slice (some ⟨g, 0, none⟩) n cap) n xs ∧ ∀ t, t < j → xs[t * 2]? = some (.int .i64 (k + 2 * t : Nat)) ∧ xs[t * 2 + 1]? = some (.int .i64 (k + 2 * t + 1 : Nat)))) (fun _ i _ => n - (intOf i).toNat)
    case atStart => exact ⟨0, Nat.zero_le _, rfl, rfl, World.grownBy.refl _ _, xs, HO.out, fun t ht => by omega⟩
    case round =>
      obtain ⟨j, hj, rfl, rfl, HG, HX⟩ := hrel
      by_cases hlt : j < n
      · obtain ⟨u, v, c0, c1, f0, f1, HR⟩ := markG_round hlt HG.out HX.out (a := (k : Int) + 2 * (j : Int)) (b := (k : Int) + 2 * (j : Int) + 1) (by omega) (by omega)
        go_wp2
        go_roundw
        case rel => exact ⟨j + 1, by omega, by go_num, by go_num, HR.out.1, HR.out.2⟩
        case measure => simp [intOf]; omega
      · go_wp2
        go_ret
        obtain ⟨ys, h1, h2⟩ := HX.out
        have hjn : j = n := by omega
        subst hjn
        refine ⟨rfl, ?_, HG.out⟩
        rw [← mkG_of h1.1 h2]
        exact h1

set_option maxHeartbeats 400000 in
theorem heldG_any (v : Value) (n base k : Nat) (w : World) (hkn : k + n ≤ 4000000) (ho : w.ownsRow base 71 2 v n (mkG k n)) :
    Calls Try.prog 67 #[v, .int .i64 k] w fun e w' => e = .returned (.int .i64 (k + 2 * n : Nat)) ∧ w' = w := by
  rcases id ho.2 with ⟨rfl, rfl⟩ | ⟨g, cap, cur, rfl, hbg, hgg, hnc, hcm, _⟩
  · go_enter Try.func67, Try.ntmps67
    go_wp2
    refine wp_loop_rounds 1 ?_
    rw [rounds_succ]
    go_wp2
    go_ret
    exact ⟨rfl, rfl⟩
  · have HO : Hid (w.ownsRow base 71 2 (.slice (some ⟨g, 0, none⟩) n cap) n (mkG k n)) := ho
    clear ho hbg hgg hnc hcm
    go_enter Try.func67, Try.ntmps67
    go_wp2
    go_loop [1, 5] (fun a i => ∃ j : Nat, j ≤ n ∧ i = .int .i64 j ∧ a = .int .i64 (k + 2 * j : Nat)) (fun _ i => n - (intOf i).toNat)
    case atStart => exact ⟨0, Nat.zero_le _, rfl, rfl⟩
    case round =>
      obtain ⟨j, hj, rfl, rfl⟩ := hrel
      by_cases hlt : j < n
      · have c0 : w.cell? ⟨g, j * 2, none⟩ = some (.int .i64 ((k : Int) + 2 * (j : Int))) := (HO.out.cellAt (j * 2) (by omega)).trans (by rw [(mkG_at hlt).1]; simp)
        have c1 : w.cell? ⟨g, j * 2 + 1, none⟩ = some (.int .i64 ((k : Int) + 2 * (j : Int) + 1)) := (HO.out.cellAt (j * 2 + 1) (by omega)).trans (by rw [(mkG_at hlt).2]; simp)
        go_wp2
        go_round
        case rel => exact ⟨j + 1, by omega, by go_num, by go_num⟩
        case measure => simp [intOf]; omega
      · go_wp2
        go_ret
        have hjn : j = n := by omega
        subst hjn
        exact ⟨rfl, rfl⟩

end Go.Proofs.Ytocgmgcjbmipnaa

namespace Go.Proofs.Ytocgmgcjbmipnaa
open Go.RowKit Go.Maps Go.WideMaps

/-- A ledger in memory of its own, blocks from 'lo' to 'hi'; its cells xs and ys. -/
structure Own2 (w : World) (lo hi : Nat) (a0 : Option Addr) (n c0 : Nat) (a1 : Option Addr) (m c1 : Nat) (xs ys : List Value) : Prop where
  t : w.ownsRow lo 9 1 (.slice a0 n c0) n xs
  g : w.ownsRow lo 71 2 (.slice a1 m c1) m ys
  tb : ∀ b, Value.ownBlock (.slice a0 n c0) = some b → b < hi
  gb : ∀ b, Value.ownBlock (.slice a1 m c1) = some b → b < hi

section
variable {w w' : World} {lo hi n c0 m c1 : Nat} {a0 a1 : Option Addr} {xs ys : List Value}
theorem Own2.chg (h : Own2 w lo hi a0 n c0 a1 m c1 xs ys) {lo' hi' : Nat} (hc : Chg w w' lo' hi') (hd : hi ≤ lo' ∨ hi' ≤ lo) : Own2 w' lo hi a0 n c0 a1 m c1 xs ys :=
  ⟨hc.row h.t (fun k hk => by have := h.tb k hk; have := (h.t.lt k hk).1; omega), hc.row h.g (fun k hk => by have := h.gb k hk; have := (h.g.lt k hk).1; omega), h.tb, h.gb⟩
theorem Own2.below (h : Own2 w lo hi a0 n c0 a1 m c1 xs ys) (hb : Below w.heap.size w w') : Own2 w' lo hi a0 n c0 a1 m c1 xs ys :=
  h.chg (Chg.of_below hb hi hi) (.inl (Nat.le_refl _))
theorem rows_apart {e e' : TypeId} {s s' n' : Nat} {v v' : Value} {zs zs' : List Value} (hne : e ≠ e') (h : w.ownsRow lo e s v n zs) (h' : w.ownsRow lo e' s' v' n' zs') : ∀ b, v.ownBlock = some b → v'.ownBlock ≠ some b := by
  intro b hb hb'
  rcases h.2 with ⟨rfl, _⟩ | ⟨g, c, cur, rfl, _, hh, _⟩
  · simp [Value.ownBlock] at hb
  rcases h'.2 with ⟨rfl, _⟩ | ⟨g', c', cur', rfl, _, hh', _⟩
  · simp [Value.ownBlock] at hb'
  simp [Value.ownBlock] at hb hb'
  subst hb hb'
  rw [hh] at hh'
  simp at hh'
  exact hne hh'.2
end

theorem markL_mid {w w2 : World} {lo hi n c0 m c1 : Nat} {a0 a1 : Option Addr} {xs ys zs : List Value} (hhi : hi ≤ w.heap.size) (h : Own2 w lo hi a0 n c0 a1 m c1 xs ys)
    (ho : w2.ownsRow lo 9 1 (.slice a0 n c0) n zs) (hg : (w.alloc (.cells #[.slice a0 n c0, .slice a1 m c1] 29)).grownBy w2 (Value.ownBlock (.slice a0 n c0))) :
    w2.cell? ⟨w.heap.size, 1, none⟩ = some (.slice a1 m c1) ∧ Hid (w2.ownsRow lo 9 1 (.slice a0 n c0) n zs ∧ w2.ownsRow lo 71 2 (.slice a1 m c1) m ys) ∧ Hid (Chg w w2 lo hi) := by
  have hc : Chg (w.alloc (.cells #[.slice a0 n c0, .slice a1 m c1] 29)) w2 lo hi := Chg.of_grown hg (fun k hk => ⟨(h.t.lt k hk).1, h.tb k hk⟩)
  have hb := hc.keep (heap_alloc_new w _) (.inr hhi)
  refine ⟨by unfold World.cell?; rw [hb]; rfl, ⟨ho, (h.g.alloc _).kept hg ?_⟩, (Chg.of_below (below_box _) lo hi).trans hc⟩
  by_cases e : Value.ownBlock (.slice a1 m c1) = none
  · exact .inl e
  · right
    obtain ⟨b, hb'⟩ := Option.ne_none_iff_exists'.1 e
    rw [hb']
    exact fun e2 => rows_apart (by decide) h.g h.t b hb' e2.symm

theorem markL_end {w w2 w3 : World} {lo hi n c0 m c1 : Nat} {a0 a1 : Option Addr} {xs ys zs us : List Value} (h : Own2 w lo hi a0 n c0 a1 m c1 xs ys)
    (ho : w2.ownsRow lo 9 1 (.slice a0 n c0) n zs) (hc : Chg w w2 lo hi) (ho3 : w3.ownsRow lo 71 2 (.slice a1 m c1) m us) (hg : w2.grownBy w3 (Value.ownBlock (.slice a1 m c1))) :
    Own2 w3 lo hi a0 n c0 a1 m c1 zs us ∧ Chg w w3 lo hi := by
  refine ⟨⟨ho.kept hg ?_, ho3, h.tb, h.gb⟩, hc.trans (Chg.of_grown hg (fun k hk => ⟨(h.g.lt k hk).1, h.gb k hk⟩))⟩
  by_cases e : Value.ownBlock (.slice a0 n c0) = none
  · exact .inl e
  · right
    obtain ⟨b, hb'⟩ := Option.ne_none_iff_exists'.1 e
    rw [hb']
    exact fun e2 => rows_apart (by decide) h.t h.g b hb' e2.symm

set_option maxHeartbeats 400000 in
theorem markL_any (a0 a1 : Option Addr) (n m c0 c1 lo hi k : Nat) (xs ys : List Value) (w : World) (hk : 0 < k) (hkn : k + n + 2 * m ≤ 4000000) (hhi : hi ≤ w.heap.size) (h : Own2 w lo hi a0 n c0 a1 m c1 xs ys) :
    Calls Try.prog 10 #[.agg #[.slice a0 n c0, .slice a1 m c1], .int .i64 k] w fun e w' => e = .returned (.int .i64 (k + n + 2 * m : Nat)) ∧ Own2 w' lo hi a0 n c0 a1 m c1 (mkL k n) (mkG (k + n) m) ∧ Chg w w' lo hi := by
  have hS := markS_any (.slice a0 n c0) n lo k xs (w.alloc (.cells #[.slice a0 n c0, .slice a1 m c1] 29)) hk (by omega) (h.t.alloc _)
  have H : Hid (Own2 w lo hi a0 n c0 a1 m c1 xs ys) := h
  have hkn' : k + n + m ≤ 4000000 := by omega
  clear h
  go_enter Try.func10, Try.ntmps10
  go_wp2_with (first
    | (go_at_call 25; refine hS.mono ?_; rintro e w2 ⟨rfl, ho2, hg2⟩; obtain ⟨q1, HG, HC⟩ := markL_mid hhi H.out ho2 hg2)
    | (go_at_call 26; refine (markG_any (.slice a1 m c1) m lo (k + n) ys _ hkn' HG.out.2).mono ?_; rintro e w3 ⟨rfl, ho3, hg3⟩))
  go_ret
  obtain ⟨h1, h2⟩ := markL_end H.out HG.out.1 HC.out ho3 hg3
  exact ⟨ret_int (by omega), h1, h2⟩

set_option maxHeartbeats 400000 in
theorem heldL_any (a0 a1 : Option Addr) (n m c0 c1 lo hi k : Nat) (w : World) (hk : 0 < k) (hkn : k + n + 2 * m ≤ 4000000) (h : Own2 w lo hi a0 n c0 a1 m c1 (mkL k n) (mkG (k + n) m)) :
    Calls Try.prog 47 #[.agg #[.slice a0 n c0, .slice a1 m c1], .int .i64 k] w fun e w' => e = .returned (.int .i64 (k + n + 2 * m : Nat)) ∧ Below w.heap.size w w' := by
  have hS := heldS_any (.slice a0 n c0) n lo k (w.alloc (.cells #[.slice a0 n c0, .slice a1 m c1] 29)) hk (by omega) (h.t.alloc _)
  have H : Hid (Own2 w lo hi a0 n c0 a1 m c1 (mkL k n) (mkG (k + n) m)) := h
  have hkn' : k + n + m ≤ 4000000 := by omega
  clear h
  go_enter Try.func47, Try.ntmps47
  go_wp2_with (first
    | (go_at_call 66; refine hS.mono ?_; rintro e w2 ⟨rfl, hb2⟩; obtain ⟨x0, x1, x2, x3, HX⟩ := res_cells (heap_alloc_new w (.cells #[.slice a0 n c0, .slice a1 m c1] 29)) hb2 (by simp); have hbw : Below w.heap.size w w2 := (below_box _).trans (hb2.mono (by simp)))
    | (go_at_call 67; refine (heldG_any (.slice a1 m c1) m lo (k + n) _ hkn' (H.out.below hbw).g).mono ?_; rintro e w3 ⟨rfl, hw⟩; have hw2 := hw.symm; subst hw2))
  go_ret
  exact ⟨ret_int (by omega), hbw⟩

end Go.Proofs.Ytocgmgcjbmipnaa
