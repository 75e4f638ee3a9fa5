/- The marks that the laws write into lists, and the looks that they are there. The marks of signatures and numbers, and of whole ledgers. The marks of whole ledgers and of results that hold one; results compared. -/
import Derived.Test.YtcknimklkjhfiaaDoorIdOf
namespace Go.Proofs.YtcknimklkjhfiaaDoor
open Go.RowKit Go.Maps Go.WideMaps

/-- The digits of a number ahead of what is there. -/
def digT (k : Nat) (acc : ByteArray) : ByteArray := if _h : k = 0 then acc else digT (k / 10) (⟨#[48 + UInt8.ofNat (k % 10)]⟩ ++ acc)
termination_by k
decreasing_by omega

theorem digT_zero (acc : ByteArray) : digT 0 acc = acc := by unfold digT; rfl
theorem digT_step (k : Nat) (acc : ByteArray) (h : ¬ k = 0) : digT k acc = digT (k / 10) (⟨#[48 + UInt8.ofNat (k % 10)]⟩ ++ acc) := by rw [digT, dif_neg h]

/-- The mark of a number. -/
def mkT (k : Nat) : ByteArray := ⟨#[109]⟩ ++ digT k ⟨#[]⟩

set_option maxRecDepth 20000 in
set_option maxHeartbeats 400000 in
theorem markText_any (k : Nat) (w : World) (h0 : 0 < k) (h1 : k ≤ 4000000) :
    Calls Tryd.prog 16 #[.int .i64 k] w fun e w' => e = .returned (.string (mkT k)) ∧ Below w.heap.size w w' := by
  go_enter Tryd.func16, Tryd.ntmps16
  go_wp2
  go_loopw [0, 3] (fun a o wr => ∃ (j : Nat) (s : ByteArray), a = .int .i64 j ∧ o = .string s ∧ j + s.size ≤ k ∧ Hid (digT k ⟨#[]⟩ = digT j s) ∧ Below w.heap.size w wr) (fun a _ _ => (intOf a).toNat)
  case atStart => exact ⟨k, ⟨#[]⟩, rfl, rfl, by simp [ByteArray.size], rfl, Below.refl _ _⟩
  case round =>
    obtain ⟨j, s, rfl, rfl, hle, hinv, hbel⟩ := hrel
    by_cases hj : j = 0
    · subst hj
      go_wp2
      go_ret
      exact ⟨by rw [mkT, hinv.out, digT_zero]; rfl, hbel⟩
    · have hj0 : 0 < j := by omega
      have hcv : (convert 38 9 (.slice (some ⟨wr.heap.size, 0, none⟩) 1 1)).run Tryd.prog (wr.alloc (.cells #[.int .u8 (48 + (j : Int) % 10)] 5)) = .ok (.string ⟨#[UInt8.ofNat (48 + j % 10)]⟩) (wr.alloc (.cells #[.int .u8 (48 + (j : Int) % 10)] 5)) := by
        refine run_convert_bytes_back (P := Tryd.prog) _ 38 9 5 ⟨wr.heap.size, 0, none⟩ 1 [UInt8.ofNat (48 + j % 10)] Tryd.underlying38 Tryd.underlying5 Tryd.underlying9 ?_
        intro i hi
        have hi0 : i = 0 := by simpa using hi
        subst hi0
        simp [Addr.add]
        omega
      go_wp2
      go_roundw
      case rel =>
        refine ⟨j / 10, ⟨#[48 + UInt8.ofNat (j % 10)]⟩ ++ s, by go_num, rfl, ?_, ?_, hbel.alloc hbel.size _⟩
        · rw [ByteArray.size_append]
          have : (⟨#[48 + UInt8.ofNat (j % 10)]⟩ : ByteArray).size = 1 := rfl
          omega
        · show digT k _ = _
          rw [hinv.out, digT_step j s hj]
      case measure => simp [intOf]; omega

/-- Only blocks from 'lo' to 'hi' may have turned. -/
structure Chg (w w' : World) (lo hi : Nat) : Prop where
  os : w'.os = w.os
  tape : w'.tape = w.tape
  output : w'.output = w.output
  size : w.heap.size ≤ w'.heap.size
  block : ∀ b, b < w.heap.size → (b < lo ∨ hi ≤ b) → w'.heap[b]? = w.heap[b]?

theorem Chg.of_below {w w' : World} (h : Below w.heap.size w w') (lo hi : Nat) : Chg w w' lo hi := ⟨h.os, h.tape, h.output, h.size, fun b hb _ => h.block b hb⟩
theorem Chg.of_grown {w w' : World} {row : Option Nat} {lo hi : Nat} (h : w.grownBy w' row) (hr : ∀ k, row = some k → lo ≤ k ∧ k < hi) : Chg w w' lo hi :=
  ⟨h.os, h.tape, h.output, h.size, fun b hb ho => h.block b hb (fun e => by have := hr b e.symm; omega)⟩
theorem Chg.trans {w w' w2 : World} {lo hi : Nat} (h : Chg w w' lo hi) (k : Chg w' w2 lo hi) : Chg w w2 lo hi :=
  ⟨k.os.trans h.os, k.tape.trans h.tape, k.output.trans h.output, Nat.le_trans h.size k.size, fun b hb ho => (k.block b (Nat.lt_of_lt_of_le hb h.size) ho).trans (h.block b hb ho)⟩
theorem Chg.below {w w' : World} {lo hi B : Nat} (h : Chg w w' lo hi) (hB : B ≤ lo) (hs : B ≤ w.heap.size) : Below B w w' := ⟨h.os, h.tape, h.output, h.size, fun k hk => h.block k (by omega) (by omega)⟩
theorem Chg.keep {w w' : World} {lo hi b : Nat} {o : Obj} (h : Chg w w' lo hi) (hb : w.heap[b]? = some o) (ho : b < lo ∨ hi ≤ b) : w'.heap[b]? = some o := (h.block b (lt_of_block hb) ho).trans hb
theorem Chg.row {w w' : World} {lo hi : Nat} (h : Chg w w' lo hi) {base : Nat} {e : TypeId} {size : Nat} {v : Value} {n : Nat} {xs : List Value} (ho : w.ownsRow base e size v n xs) (hv : ∀ k, v.ownBlock = some k → k < lo ∨ hi ≤ k) : w'.ownsRow base e size v n xs := by
  refine ⟨ho.1, ?_⟩
  rcases ho.2 with hn | ⟨g, cap, cur, rfl, hb, hgg, rest⟩
  · exact .inl hn
  · exact .inr ⟨g, cap, cur, rfl, hb, h.keep hgg (hv g rfl), rest⟩

def mkL (k n : Nat) : List Value := (List.range n).map fun j => .string (mkT (k + j))
theorem mkL_of {xs : List Value} {k n : Nat} (hl : xs.length = n * 1) (h : ∀ j, j < n → xs[j]? = some (.string (mkT (k + j)))) : xs = mkL k n := by
  apply List.ext_getElem?
  intro j
  by_cases hj : j < n
  · rw [h j hj]; simp [mkL, hj]
  · rw [List.getElem?_eq_none (by omega), List.getElem?_eq_none (by simp [mkL]; omega)]
theorem mkL_at {k n j : Nat} (hj : j < n) : (mkL k n)[j]? = some (.string (mkT (k + j))) := by simp [mkL, hj]

theorem markS_round {w wr w2 : World} {base g n cap j k : Nat} (hlt : j < n) (hg : w.grownBy wr (some g))
    (hx : ∃ xs, wr.ownsRow base 9 1 (.slice (some ⟨g, 0, none⟩) n cap) n xs ∧ ∀ t, t < j → xs[t]? = some (.string (mkT (k + t)))) (hb : Below wr.heap.size wr w2) :
    ∃ u, w2.cell? ⟨g, j, none⟩ = some u ∧ w2.frozen? ⟨g, j, none⟩ = false ∧
      Hid (w.grownBy (w2.setCell ⟨g, j, none⟩ (.string (mkT (k + j)))) (some g) ∧ ∃ xs, (w2.setCell ⟨g, j, none⟩ (.string (mkT (k + j)))).ownsRow base 9 1 (.slice (some ⟨g, 0, none⟩) n cap) n xs ∧ ∀ t, t < j + 1 → xs[t]? = some (.string (mkT (k + t)))) := by
  obtain ⟨xs, ho, hxs⟩ := hx
  have ho2 := ho.kept (grown_of_below hb) (by simp [Value.ownBlock])
  have hxl := ho2.1
  obtain ⟨r1, r2⟩ := ho2.stored j (.string (mkT (k + j)))
  refine ⟨_, (ho2.cellAt j (by omega)).trans (List.getElem?_eq_getElem (by omega)), ho2.frozenAt j, ?_, _, r1, fun t ht => ?_⟩
  · exact ⟨r2.os.trans (hb.os.trans hg.os), r2.tape.trans (hb.tape.trans hg.tape), r2.output.trans (hb.output.trans hg.output), Nat.le_trans hg.size (Nat.le_trans hb.size r2.size),
      fun b hbl hne => (r2.block b (Nat.lt_of_lt_of_le hbl (Nat.le_trans hg.size hb.size)) hne).trans ((hb.block b (Nat.lt_of_lt_of_le hbl hg.size)).trans (hg.block b hbl hne))⟩
  · by_cases e : j = t
    · subst e; rw [List.getElem?_set_self (by omega)]
    · rw [List.getElem?_set_ne e, hxs t (by omega)]

set_option maxHeartbeats 400000 in
theorem markS_any (v : Value) (n base k : Nat) (xs : List Value) (w : World) (hk : 0 < k) (hkn : k + n ≤ 4000000) (ho : w.ownsRow base 9 1 v n xs) :
    Calls Tryd.prog 12 #[v, .int .i64 k] w fun e w' => e = .returned (.int .i64 (k + n : Nat)) ∧ w'.ownsRow base 9 1 v n (mkL k n) ∧ w.grownBy w' v.ownBlock := by
  rcases id ho.2 with ⟨rfl, rfl⟩ | ⟨g, cap, cur, rfl, hbg, hgg, hnc, hcm, _⟩
  · go_enter Tryd.func12, Tryd.ntmps12
    go_wp2
    refine wp_loop_rounds 1 ?_
    rw [rounds_succ]
    go_wp2
    go_ret
    exact ⟨rfl, World.ownsRow_nil _ _ _ _, World.grownBy.refl _ _⟩
  · have HO : Hid (w.ownsRow base 9 1 (.slice (some ⟨g, 0, none⟩) n cap) n xs) := ho
    clear ho hbg hgg hnc hcm
    go_enter Tryd.func12, Tryd.ntmps12
    go_wp2
    go_loopw [1, 5] (fun a i wr => ∃ j : Nat, j ≤ n ∧ i = .int .i64 j ∧ a = .int .i64 (k + j : Nat) ∧ Hid (w.grownBy wr (some g)) ∧ Hid (∃ xs, wr.ownsRow base 9 1 (.slice (some ⟨g, 0, none⟩) n cap) n xs ∧ ∀ t, t < j → xs[t]? = some (.string (mkT (k + t))))) (fun _ i _ => n - (intOf i).toNat)
    case atStart => exact ⟨0, Nat.zero_le _, rfl, rfl, World.grownBy.refl _ _, xs, HO.out, fun t ht => by omega⟩
    case round =>
      obtain ⟨j, hj, rfl, rfl, HG, HX⟩ := hrel
      by_cases hlt : j < n
      · go_wp2_with (first | (go_at_call 16; refine (markText_any (k + j) _ (by omega) (by omega)).mono ?_; rintro e w2 ⟨rfl, hb2⟩; obtain ⟨u, cg, fg, HR⟩ := markS_round hlt HG.out HX.out hb2))
        go_roundw
        case rel => exact ⟨j + 1, by omega, by go_num, by go_num, HR.out.1, HR.out.2⟩
        case measure => simp [intOf]; omega
      · go_wp2
        go_ret
        obtain ⟨ys, h1, h2⟩ := HX.out
        have hjn : j = n := by omega
        subst hjn
        refine ⟨rfl, ?_, HG.out⟩
        rw [← mkL_of h1.1 h2]
        exact h1

set_option maxHeartbeats 400000 in
theorem heldS_any (v : Value) (n base k : Nat) (w : World) (hk : 0 < k) (hkn : k + n ≤ 4000000) (ho : w.ownsRow base 9 1 v n (mkL k n)) :
    Calls Tryd.prog 13 #[v, .int .i64 k] w fun e w' => e = .returned (.int .i64 (k + n : Nat)) ∧ Below w.heap.size w w' := by
  rcases id ho.2 with ⟨rfl, rfl⟩ | ⟨g, cap, cur, rfl, hbg, hgg, hnc, hcm, _⟩
  · go_enter Tryd.func13, Tryd.ntmps13
    go_wp2
    refine wp_loop_rounds 1 ?_
    rw [rounds_succ]
    go_wp2
    go_ret
    exact ⟨rfl, Below.refl _ _⟩
  · have HO : Hid (w.ownsRow base 9 1 (.slice (some ⟨g, 0, none⟩) n cap) n (mkL k n)) := ho
    have hgl : g < w.heap.size := lt_of_block hgg
    clear ho hbg hgg hnc hcm
    go_enter Tryd.func13, Tryd.ntmps13
    go_wp2
    go_loopw [1, 5] (fun a i wr => ∃ j : Nat, j ≤ n ∧ i = .int .i64 j ∧ a = .int .i64 (k + j : Nat) ∧ Below w.heap.size w wr) (fun _ i _ => n - (intOf i).toNat)
    case atStart => exact ⟨0, Nat.zero_le _, rfl, rfl, Below.refl _ _⟩
    case round =>
      obtain ⟨j, hj, rfl, rfl, hbel⟩ := hrel
      by_cases hlt : j < n
      · have hc : wr.cell? ⟨g, j, none⟩ = some (.string (mkT (k + j))) := (hbel.cell (p := ⟨g, j, none⟩) hgl).trans ((HO.out.cellAt j (by omega)).trans (mkL_at hlt))
        have hgw : g < wr.heap.size := Nat.lt_of_lt_of_le hgl hbel.size
        have hji : (j : Int) < (n : Int) := by omega
        have hmt : ∀ t, Calls Tryd.prog 16 #[.int .i64 ((k : Int) + (j : Int))] (wr.drewN t) fun e w' => e = .returned (.string (mkT (k + j))) ∧ Below wr.heap.size wr w' := fun t => by
          have := (markText_any (k + j) (wr.drewN t) (by omega) (by omega)).mono fun e w' h => (⟨h.1, (Joins.below_draws _ wr t).trans h.2⟩ : e = .returned (.string (mkT (k + j))) ∧ Below wr.heap.size wr w')
          simpa using this
        go_wp2
        go_region_held3 (fun w' => w'.cell? ⟨g, j, none⟩ = some (.string (mkT (k + j)))) (go_keep)
          (first | (go_at_call 16; refine (hmt 1).mono ?_; rintro e w2 ⟨rfl, hb2⟩; have z0 := (hb2.cell (p := ⟨g, j, none⟩) hgw).trans hc))
        go_wp2
        go_roundw
        case rel => exact ⟨j + 1, by omega, by go_num, by go_num, hbel.trans (hb2.mono hbel.size)⟩
        case measure => simp [intOf]; omega
      · go_wp2
        go_ret
        have hjn : j = n := by omega
        subst hjn
        exact ⟨rfl, hbel⟩

end Go.Proofs.YtcknimklkjhfiaaDoor

namespace Go.Proofs.YtcknimklkjhfiaaDoor
open Go.RowKit Go.Maps Go.WideMaps

end Go.Proofs.YtcknimklkjhfiaaDoor

namespace Go.Proofs.YtcknimklkjhfiaaDoor
open Go.RowKit Go.Maps Go.WideMaps


end Go.Proofs.YtcknimklkjhfiaaDoor
