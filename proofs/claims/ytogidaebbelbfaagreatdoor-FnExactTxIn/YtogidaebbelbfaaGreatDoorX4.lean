/- The program fills its purse with coins. A text cut at a byte: what it comes to, and the specification's. A number read: what it comes to, and the specification's. The fault of a block: what it comes to, the specification's, the program's. Numbers and blocks, written and read back: no program in it. The specification's ParseBlock keeps its contract. -/
import Derived.Test.YtogidaebbelbfaaGreatDoorX3
import Derived.Test.YtogidaebbelbfaaGreatDoorX2
import Derived.Test.YtogidaebbelbfaaGreatDoorTxS
import Derived.Test.YtogidaebbelbfaaGreatDoorITx
import Derived.Maps.OwnSet
import Derived.Maps.Range
import Derived.Test.YtogidaebbelbfaaGreatDoorRtS
import Derived.Test.YtogidaebbelbfaaGreatDoorRtT
import Derived.Test.YtogidaebbelbfaaGreatDoorRu
import Derived.Test.YtogidaebbelbfaaGreatDoorX1
import Derived.Test.YtogidaebbelbfaaGreatDoorRtI
namespace Go.Proofs.YtogidaebbelbfaaGreatDoor
open Go.RowKit Go.Maps Go.WideMaps

/-- An append in a plain region, out of its own run. -/
theorem wpList_append_runC {P : Program} {w : World} {ops : Array Oper} {rest : List Oper} {o : Oper} {a : Act} {Q : Exit → Act → World → Prop} (hgd : o.guard = none) (s x : Operand) (t : TypeId)
    (hop : o.op = .call { callee := .builtin .append, args := #[s, x], argTypes := #[t, t] }) {v u v' : Value} {w' : World} (hs : a.eval s = v) (hx : a.eval x = u) (hrun : (Builtin.append_ #[t, t] o.type #[v, u]).run P w = .ok v' w') (h : wpList P ops Q rest (a.put o.dst v') w') :
    wpList P ops Q (o :: rest) a w :=
  wpList_plain hgd fun _ hK => by
    unfold Oper.wp
    simp [execOp, hop, resolve, invoke, builtin, hs, hx, hrun, Result.andThen]
    exact hK _ _ h

end Go.Proofs.YtogidaebbelbfaaGreatDoor

namespace Go.Proofs.YtogidaebbelbfaaGreatDoor
open Go.RowKit Go.Shelf Go.Maps Go.WideMaps

def cutL (c : UInt8) : List UInt8 → List (List UInt8)
  | [] => [[]]
  | b :: t => if b = c then [] :: cutL c t else (match cutL c t with | [] => [[b]] | x :: r => (b :: x) :: r)
theorem cutL_ne (c : UInt8) (t : List UInt8) : cutL c t ≠ [] := by
  cases t with
  | nil => simp [cutL]
  | cons b t =>
    unfold cutL
    by_cases h : b = c
    · rw [if_pos h]; simp
    · rw [if_neg h]; cases cutL c t <;> simp
theorem cutL_one {c : UInt8} {t : List UInt8} (h : c ∉ t) : cutL c t = [t] := by
  induction t with
  | nil => rfl
  | cons b t ih =>
    have h1 : ¬ b = c := fun e => h (by rw [e]; exact List.mem_cons_self ..)
    rw [cutL, if_neg h1, ih (fun e => h (List.mem_cons_of_mem _ e))]
theorem cutL_at {c : UInt8} {s r : List UInt8} (h : c ∉ s) : cutL c (s ++ c :: r) = s :: cutL c r := by
  induction s with
  | nil => simp [cutL]
  | cons b t ih =>
    have h1 : ¬ b = c := fun e => h (by rw [e]; exact List.mem_cons_self ..)
    rw [List.cons_append, cutL, if_neg h1, ih (fun e => h (List.mem_cons_of_mem _ e))]
theorem cutL_len (c : UInt8) (t : List UInt8) : (cutL c t).length ≤ t.length + 1 := by
  induction t with
  | nil => simp [cutL]
  | cons b t ih =>
    unfold cutL
    by_cases h : b = c
    · rw [if_pos h]; simp; omega
    · rw [if_neg h]
      cases e : cutL c t with
      | nil => exact absurd e (cutL_ne c t)
      | cons x r => rw [e] at ih; simp at ih ⊢; omega
theorem cutL_sub (c : UInt8) (t : List UInt8) : ∀ x ∈ cutL c t, x.length ≤ t.length := by
  induction t with
  | nil => intro x hx; simp [cutL] at hx; simp [hx]
  | cons b t ih =>
    intro x hx
    unfold cutL at hx
    by_cases h : b = c
    · rw [if_pos h] at hx
      rcases List.mem_cons.1 hx with rfl | hx
      · simp
      · have := ih x hx; simp; omega
    · rw [if_neg h] at hx
      cases e : cutL c t with
      | nil => exact absurd e (cutL_ne c t)
      | cons y r =>
        rw [e] at hx
        rcases List.mem_cons.1 hx with rfl | hx
        · have := ih y (by rw [e]; exact List.mem_cons_self ..); simp; omega
        · have := ih x (by rw [e]; exact List.mem_cons_of_mem _ hx); simp; omega

/-- So far: the pieces ahead of f are told, and there is no cut from f to k. -/
def CutI (c : UInt8) (t : List UInt8) (ps : List (List UInt8)) (f k : Nat) : Prop :=
  (k ≤ t.length ∧ f ≤ k ∧ cutL c t = ps ++ cutL c (t.drop f) ∧ c ∉ (t.drop f).take (k - f)) ∨ (k = t.length + 1 ∧ cutL c t = ps)
theorem CutI.hit {c : UInt8} {t : List UInt8} {ps : List (List UInt8)} {f k : Nat} (h : CutI c t ps f k) (hk : k < t.length) (hc : t.getD k 0 = c) : CutI c t (ps ++ [(t.drop f).take (k - f)]) (k + 1) (k + 1) := by
  rcases h with ⟨h1, h2, h3, h4⟩ | ⟨h1, _⟩
  · have e : t.drop f = (t.drop f).take (k - f) ++ c :: t.drop (k + 1) := by
      have e1 : t.drop k = c :: t.drop (k + 1) := by
        rw [List.drop_eq_getElem_cons hk]
        have : t[k] = c := by rw [← hc]; simp [List.getD, hk]
        rw [this]
      rw [← e1, show t.drop k = (t.drop f).drop (k - f) by rw [List.drop_drop]; congr 1; omega, List.take_append_drop]
    refine .inl ⟨by omega, Nat.le_refl _, ?_, by simp⟩
    rw [h3]
    conv => lhs; rw [e, cutL_at h4]
    simp
  · omega
theorem CutI.miss {c : UInt8} {t : List UInt8} {ps : List (List UInt8)} {f k : Nat} (h : CutI c t ps f k) (hk : k < t.length) (hc : ¬ t.getD k 0 = c) : CutI c t ps f (k + 1) := by
  rcases h with ⟨h1, h2, h3, h4⟩ | ⟨h1, _⟩
  · refine .inl ⟨by omega, by omega, h3, ?_⟩
    rw [show k + 1 - f = (k - f) + 1 by omega, List.take_add_one]
    intro hm
    rcases List.mem_append.1 hm with hm | hm
    · exact h4 hm
    · have e : (t.drop f)[k - f]? = some (t.getD k 0) := by
        rw [List.getElem?_drop, show f + (k - f) = k by omega]
        simp [List.getD, hk]
      rw [e] at hm
      simp at hm
      exact hc hm.symm
  · omega
theorem CutI.last {c : UInt8} {t : List UInt8} {ps : List (List UInt8)} {f k : Nat} (h : CutI c t ps f k) (hk : k = t.length) : CutI c t (ps ++ [(t.drop f).take (k - f)]) (k + 1) (k + 1) := by
  rcases h with ⟨h1, h2, h3, h4⟩ | ⟨h1, _⟩
  · have e : (t.drop f).take (k - f) = t.drop f := List.take_of_length_le (by rw [List.length_drop]; omega)
    rw [e] at h4 ⊢
    exact .inr ⟨by omega, by rw [h3, cutL_one h4]⟩
  · omega
theorem CutI.done {c : UInt8} {t : List UInt8} {ps : List (List UInt8)} {f k : Nat} (h : CutI c t ps f k) (hk : ¬ k ≤ t.length) : cutL c t = ps := by
  rcases h with ⟨h1, _⟩ | ⟨_, h2⟩
  · exact absurd h1 hk
  · exact h2

theorem str_cut (t : List UInt8) (f k : Nat) : (str t).extract f k = str ((t.drop f).take (k - f)) := by
  apply ByteArray.ext
  simp [str]

/-- A text more: what the append leaves. -/
theorem text_added {W : World} {lo j : Nat} {v : Value} {ps : List (List UInt8)} {s : ByteArray} (h : W.ownsRow lo 9 1 v j (texts ps)) (hj : j ≤ 4000000) (hlo : lo ≤ W.heap.size) :
    ∃ g cap w5, (Builtin.append_ #[22, 22] 22 #[v, .slice (some ⟨W.heap.size, 0, none⟩) 1 1]).run Tryz.prog (W.alloc (.cells #[.string s] 9)) = .ok (.slice (some ⟨g, 0, none⟩) (j + 1) cap) w5 ∧
      Hid (w5.ownsRow lo 9 1 (.slice (some ⟨g, 0, none⟩) (j + 1) cap) (j + 1) (texts ps ++ [.string s]) ∧ Below lo W w5) := by
  obtain ⟨i0, hi, hz0, hz1, hz2⟩ := info_parts Tryz.infoStr
  obtain ⟨v', w5, hrun, hown', hgrow, hsome⟩ := run_append_own (P := Tryz.prog) (W.alloc (.cells #[.string s] 9)) lo 22 22 9 i0 (.string ByteArray.empty) 1 16 Tryz.underlying22 hi hz0 hz1 hz2 rfl (by decide) v j (texts ps) (h.alloc _) ⟨W.heap.size, 0, none⟩ 1 1 [.string s] rfl (World.news_of_block (heap_alloc_new _ _)) (by
    intro z hz
    simp only [List.mem_cons, List.not_mem_nil, or_false] at hz
    rw [hz]; rfl) (by unfold maxLen; omega) (by omega) (by simp; omega)
  obtain ⟨g, cap, rfl⟩ := ownsRow_succ hown'
  exact ⟨g, cap, w5, hrun, hown', ((below_box _).mono hlo).grown hgrow (by simp; omega) (fun k hk => (h.lt k hk).1)⟩

set_option maxRecDepth 20000 in
set_option maxHeartbeats 2000000 in
theorem l2Cut_any (t : List UInt8) (c : UInt8) (w : World) (ht : t.length ≤ 1048576) :
    Calls Tryz.prog 49 #[.string (str t), .int .u8 (c.toNat : Int)] w fun e w' => ∃ va vc, e = .returned (.slice va (cutL c t).length vc) ∧ w'.ownsRow w.heap.size 9 1 (.slice va (cutL c t).length vc) (cutL c t).length (texts (cutL c t)) ∧ Below w.heap.size w w' := by
  have hss : (str t).size = t.length := rfl
  have hex : ∀ f k : Nat, (str t).extract f k = str ((t.drop f).take (k - f)) := str_cut t
  obtain ⟨i0, hi, hz0, hz1, hz2⟩ := info_parts Tryz.infoStr
  go_enter Tryz.func49, Tryz.ntmps49
  go_wp2
  go_loopw [5, 6, 7] (fun v fr i wr => ∃ k f : Nat, k ≤ t.length + 1 ∧ f ≤ k ∧ i = .int .i64 k ∧ fr = .int .i64 f ∧ Below w.heap.size w wr ∧ ∃ g vc, ∃ ps : List (List UInt8), v = .slice (some ⟨g, 0, none⟩) ps.length vc ∧ ps.length ≤ k ∧ Hid (wr.ownsRow w.heap.size 9 1 (.slice (some ⟨g, 0, none⟩) ps.length vc) ps.length (texts ps)) ∧ Hid (CutI c t ps f k)) (fun _ _ i _ => t.length + 1 - (intOf i).toNat)
  case atStart => exact ⟨0, 0, by omega, Nat.le_refl _, rfl, rfl, below_box _, w.heap.size, 0, [], rfl, Nat.le_refl _, ⟨rfl, .inr ⟨w.heap.size, 0, #[], rfl, Nat.le_refl _, heap_alloc_new _ _, Nat.le_refl _, by unfold maxLen; omega, rfl, rfl⟩⟩, .inl ⟨by omega, Nat.le_refl _, by simp, by simp⟩⟩
  case round =>
    obtain ⟨k, f, hk, hf, rfl, rfl, hbel, g, vc, ps, rfl, hpk, HO, HC⟩ := hrel
    by_cases hlt : k ≤ t.length
    · have hle : (k : Int) ≤ (t.length : Int) := by omega
      have hfi : (f : Int) ≤ (k : Int) := by omega
      have hf0 : (0 : Int) ≤ (f : Int) := by omega
      have hk0 : (0 : Int) ≤ (k : Int) := by omega
      obtain ⟨pc, hpc⟩ : ∃ q, q = (t.drop f).take (k - f) := ⟨_, rfl⟩
      have hxk : (str t).extract f k = str pc := by rw [hex, hpc]
      have HPC : Hid (pc = (t.drop f).take (k - f)) := hpc
      have hsz := hbel.size
      obtain ⟨g5, cap, w5, hrun, HC5⟩ := text_added (s := str pc) HO.out (by omega) hsz
      by_cases he : k = t.length
      · have hee : ((k : Int) == (t.length : Int)) = true := by simp [he]
        have HN : Hid (CutI c t (ps ++ [pc]) (k + 1) (k + 1)) := by rw [HPC.out]; exact HC.out.last he
        clear he hpc hex
        go_wp2_with (first | (at_builtin; go_must (refine wpList_append_runC (by rfl) _ _ _ (by rfl) (by rfl) (by rfl) hrun ?_); clear hrun))
        go_roundw
        case rel => exact ⟨k + 1, k + 1, by omega, by omega, by go_num, by go_num, hbel.trans (HC5.out.2.mono (Nat.le_refl _)), g5, cap, ps ++ [pc], by simp, by simp; omega, by rw [List.length_append, texts_more]; exact HC5.out.1, HN.out⟩
        case measure => simp [intOf]; omega
      · have hki : (k : Int) < (t.length : Int) := by omega
        have hee : ((k : Int) == (t.length : Int)) = false := by simp; omega
        have hen : (k == t.length) = false := by simp; omega
        obtain ⟨x, hx⟩ : ∃ x, x = t.getD k 0 := ⟨_, rfl⟩
        have hix : ∀ hh, (str t)[k]'hh = x := fun hh => by
          rw [hx]
          have : k < t.length := by omega
          simp [List.getD, this, str, ByteArray.getElem_eq_getElem_data]
        have HX : Hid (t.getD k 0 = x) := hx.symm
        by_cases hc : x = c
        · have hcc : ((x.toNat : Int) == (c.toNat : Int)) = true := by simp [hc]
          have HN : Hid (CutI c t (ps ++ [pc]) (k + 1) (k + 1)) := by rw [HPC.out]; exact HC.out.hit (by omega) (by rw [HX.out]; exact hc)
          clear he hpc hex hx hc
          go_wp2_with (first | (at_builtin; go_must (refine wpList_append_runC (by rfl) _ _ _ (by rfl) (by rfl) (by rfl) hrun ?_); clear hrun))
          go_roundw
          case rel => exact ⟨k + 1, k + 1, by omega, by omega, by go_num, by go_num, hbel.trans (HC5.out.2.mono (Nat.le_refl _)), g5, cap, ps ++ [pc], by simp, by simp; omega, by rw [List.length_append, texts_more]; exact HC5.out.1, HN.out⟩
          case measure => simp [intOf]; omega
        · have hcc : ((x.toNat : Int) == (c.toNat : Int)) = false := by
            simp
            intro e
            exact hc (UInt8.toNat_inj.1 (by omega))
          have HN : Hid (CutI c t ps f (k + 1)) := HC.out.miss (by omega) (by rw [HX.out]; exact hc)
          clear he hpc hex hx hc hrun
          go_wp2
          go_roundw
          case rel => exact ⟨k + 1, f, by omega, by omega, by go_num, rfl, hbel, g, vc, ps, rfl, by omega, HO, HN⟩
          case measure => simp [intOf]; omega
    · have e1 := HC.out.done hlt
      clear hex
      go_wp2
      go_ret
      rw [e1]
      exact ⟨_, _, rfl, HO.out, hbel⟩

end Go.Proofs.YtogidaebbelbfaaGreatDoor

namespace Go.Proofs.YtogidaebbelbfaaGreatDoor
open Go.RowKit Go.Shelf Go.Maps Go.WideMaps

def isDg (b : UInt8) : Bool := decide (48 ≤ b.toNat ∧ b.toNat ≤ 57)
def valD (t : List UInt8) : Nat := t.foldl (fun v b => v * 10 + (b.toNat - 48)) 0
def numR (t : List UInt8) (n : Nat) : Int × Bool :=
  if t.length < 1 ∨ n < t.length ∨ (1 < t.length ∧ t.getD 0 0 = 48) then (0, false) else if t.all isDg = true then ((valD t : Int), true) else (0, false)
theorem valD_snoc (t : List UInt8) (b : UInt8) : valD (t ++ [b]) = valD t * 10 + (b.toNat - 48) := by simp [valD]
theorem dg_le {b : UInt8} (h : isDg b = true) : 48 ≤ b.toNat ∧ b.toNat ≤ 57 := by simpa [isDg] using h
theorem snoc_ind {α : Type} {P : List α → Prop} (h0 : P []) (h1 : ∀ l a, P l → P (l ++ [a])) (l : List α) : P l := by
  rw [← List.reverse_reverse l]
  induction l.reverse with
  | nil => exact h0
  | cons a t ih => rw [List.reverse_cons]; exact h1 _ _ ih
theorem take_nextB {t : List UInt8} {k : Nat} {x : UInt8} (hk : k < t.length) (hx : x = t.getD k 0) : t.take (k + 1) = t.take k ++ [x] := by
  rw [List.take_add_one, hx]
  simp [List.getD, hk]

set_option maxRecDepth 20000 in
set_option maxHeartbeats 2000000 in
theorem l2Number_any (t : List UInt8) (n : Nat) (w : World) (ht : t.length ≤ 1048576) (hn : n ≤ 7) :
    Calls Tryz.prog 50 #[.string (str t), .int .i64 n] w fun e w' => e = .returned (.tuple #[.int .i64 (numR t n).1, .bool (numR t n).2]) ∧ w' = w := by
  have hss : (str t).size = t.length := rfl
  have hix : ∀ (k : Nat) hh, (str t)[k]'hh = t.getD k 0 := fun k hh => by
    have : k < t.length := hh
    simp [List.getD, this, str, ByteArray.getElem_eq_getElem_data]
  obtain ⟨rv, hrv⟩ : ∃ r, r = (numR t n).1 := ⟨_, rfl⟩
  obtain ⟨rb, hrb⟩ : ∃ r, r = (numR t n).2 := ⟨_, rfl⟩
  rw [← hrv, ← hrb]
  have HR : Hid ((rv, rb) = numR t n) := by rw [hrv, hrb]; rfl
  clear hrv hrb
  by_cases h1 : t.length < 1
  · obtain ⟨rfl, rfl⟩ : rv = 0 ∧ rb = false := Prod.mk.inj (by rw [HR.out]; unfold numR; rw [if_pos (.inl h1)])
    have hd : decide ((t.length : Int) < 1) = true := by simp; omega
    go_enter Tryz.func50, Tryz.ntmps50
    go_wp2
    exact bodyPost_ret (v := .tuple #[.int .i64 0, .bool false]) (by simp [results, Tryz.results50, go_sem]) rfl ⟨rfl, rfl⟩
  have hd1 : decide ((t.length : Int) < 1) = false := by simp; omega
  by_cases h2 : n < t.length
  · obtain ⟨rfl, rfl⟩ : rv = 0 ∧ rb = false := Prod.mk.inj (by rw [HR.out]; unfold numR; rw [if_pos (.inr (.inl h2))])
    have hd2 : decide ((n : Int) < (t.length : Int)) = true := by simp; omega
    go_enter Tryz.func50, Tryz.ntmps50
    go_wp2
    exact bodyPost_ret (v := .tuple #[.int .i64 0, .bool false]) (by simp [results, Tryz.results50, go_sem]) rfl ⟨rfl, rfl⟩
  have hd2 : decide ((n : Int) < (t.length : Int)) = false := by simp; omega
  have hl7 : t.length ≤ 7 := by omega
  obtain ⟨x0, hx0⟩ : ∃ x, x = t.getD 0 0 := ⟨_, rfl⟩
  have hi0 : ∀ hh, (str t)[0]'hh = x0 := fun hh => by rw [hix, hx0]
  by_cases h3 : 1 < t.length ∧ x0 = 48
  · obtain ⟨rfl, rfl⟩ : rv = 0 ∧ rb = false := Prod.mk.inj (by rw [HR.out]; unfold numR; rw [if_pos (.inr (.inr ⟨h3.1, by rw [← hx0]; exact h3.2⟩))])
    have hd3 : decide ((1 : Int) < (t.length : Int)) = true := by simp; omega
    have hlt : (0 : Int) < (t.length : Int) := by omega
    have hx : ((x0.toNat : Int) == 48) = true := by rw [h3.2]; rfl
    clear h3 hx0 hix
    go_enter Tryz.func50, Tryz.ntmps50
    go_wp2
    exact bodyPost_ret (v := .tuple #[.int .i64 0, .bool false]) (by simp [results, Tryz.results50, go_sem]) rfl ⟨rfl, rfl⟩
  have HR2 : Hid ((rv, rb) = if t.all isDg = true then ((valD t : Int), true) else (0, false)) := by
    show _ = _
    rw [HR.out]; unfold numR
    rw [if_neg (by rw [← hx0]; rintro (h | h | h); exact h1 h; exact h2 h; exact h3 h)]
  have hlt0 : (0 : Int) < (t.length : Int) := by omega
  have key : ∀ q : Bool, (decide ((1 : Int) < (t.length : Int)) = q) → (q = true → ((x0.toNat : Int) == 48) = false) → Calls Tryz.prog 50 #[.string (str t), .int .i64 n] w fun e w' => e = .returned (.tuple #[.int .i64 rv, .bool rb]) ∧ w' = w := by
    intro q hd3 hq
    have HIX : Hid (∀ (k : Nat) hh, (str t)[k]'hh = t.getD k 0) := hix
    clear HR hx0 h3 hix
    cases q
    all_goals
      try (have hx := hq rfl)
      clear hq
      go_enter Tryz.func50, Tryz.ntmps50
      go_wp2
      go_loopw [6, 7] (fun v i wr => ∃ k : Nat, k ≤ t.length ∧ i = .int .i64 k ∧ (∃ z : Nat, v = .int .i64 z ∧ z < 10 ^ k ∧ Hid (valD (t.take k) = z ∧ (t.take k).all isDg = true)) ∧ wr = w) (fun _ i _ => t.length - (intOf i).toNat)
      case atStart => exact ⟨0, Nat.zero_le _, rfl, ⟨0, rfl, by simp, by simp [valD], by simp⟩, rfl⟩
      case round =>
        obtain ⟨k, hk, rfl, ⟨z, rfl, hz, HV⟩, hw⟩ := hrel
        have hw2 := hw.symm
        subst hw2
        by_cases hlt : k < t.length
        · obtain ⟨x, hx⟩ : ∃ x, x = t.getD k 0 := ⟨_, rfl⟩
          have hixk : ∀ hh, (str t)[k]'hh = x := fun hh => by rw [HIX.out, hx]
          have HX : Hid (x = t.getD k 0) := hx
          have hki : (k : Int) < (t.length : Int) := by omega
          have hz6 : z < 1000000 := Nat.lt_of_lt_of_le hz (Nat.pow_le_pow_right (by omega) (show k ≤ 6 by omega))
          clear hx
          by_cases hd : isDg x = true
          · have hb := dg_le hd
            have e1 : decide ((x.toNat : Int) < 48) = false := by simp; omega
            have e2 : decide ((57 : Int) < (x.toNat : Int)) = false := by simp; omega
            have e3 : IntKind.u8.wrap ((x.toNat : Int) - 48) = ((x.toNat - 48 : Nat) : Int) := by simp [IntKind.wrap, IntKind.bits, IntKind.signed]; omega
            have e4 : IntKind.i64.wrap ((x.toNat - 48 : Nat) : Int) = ((x.toNat - 48 : Nat) : Int) := IntWalk.i64_in _ (by omega)
            have e5 : IntKind.i64.wrap ((z : Int) * 10) = (z : Int) * 10 := IntWalk.i64_in _ (by omega)
            have e6 : IntKind.i64.wrap ((z : Int) * 10 + ((x.toNat - 48 : Nat) : Int)) = ((z * 10 + (x.toNat - 48) : Nat) : Int) := by rw [IntWalk.i64_in _ (by omega)]; omega
            have HV2 : Hid (valD (t.take (k + 1)) = z * 10 + (x.toNat - 48) ∧ (t.take (k + 1)).all isDg = true) := by
              rw [take_nextB hlt HX.out, valD_snoc, HV.out.1]
              exact ⟨rfl, by rw [List.all_append, HV.out.2]; simp [hd]⟩
            have hz2 : z * 10 + (x.toNat - 48) < 10 ^ (k + 1) := by rw [Nat.pow_succ]; omega
            obtain ⟨z2, hzz⟩ : ∃ z2, z2 = z * 10 + (x.toNat - 48) := ⟨_, rfl⟩
            rw [← hzz] at e6 HV2 hz2
            clear hd hb hzz
            go_wp2
            go_roundw
            case rel => exact ⟨k + 1, by omega, by go_num, ⟨z2, by first | rfl | (simp [e6]), hz2, HV2⟩, (by first | rfl | trivial)⟩
            case measure => simp [intOf]; omega
          · have hall : t.all isDg = false := by
              refine Bool.eq_false_iff.2 fun e => hd ?_
              rw [List.all_eq_true] at e
              refine e x ?_
              rw [HX.out]
              have : t.getD k 0 = t[k] := by simp [List.getD, hlt]
              rw [this]; exact List.getElem_mem _
            obtain ⟨rfl, rfl⟩ : rv = 0 ∧ rb = false := Prod.mk.inj (by rw [HR2.out, hall]; rfl)
            have hnd : x.toNat < 48 ∨ 57 < x.toNat := by simp [isDg] at hd; omega
            clear hd hall
            by_cases hlo : x.toNat < 48
            · have e1 : decide ((x.toNat : Int) < 48) = true := by simp; omega
              go_wp2
              exact bodyPost_ret (v := .tuple #[.int .i64 0, .bool false]) (by simp [results, Tryz.results50, go_sem]) rfl ⟨rfl, rfl⟩
            · have e1 : decide ((x.toNat : Int) < 48) = false := by simp; omega
              have e2 : decide ((57 : Int) < (x.toNat : Int)) = true := by simp; omega
              go_wp2
              exact bodyPost_ret (v := .tuple #[.int .i64 0, .bool false]) (by simp [results, Tryz.results50, go_sem]) rfl ⟨rfl, rfl⟩
        · have hkt : t.take k = t := List.take_of_length_le (by omega)
          have hv := HV.out
          rw [hkt] at hv
          obtain ⟨rfl, rfl⟩ : rv = (z : Int) ∧ rb = true := Prod.mk.inj (by rw [HR2.out, hv.2, if_pos rfl, hv.1])
          clear hv
          go_wp2
          exact bodyPost_ret (v := .tuple #[.int .i64 z, .bool true]) (by simp [results, Tryz.results50, go_sem]) rfl ⟨rfl, rfl⟩
  exact key _ rfl (fun hq => by
    have h4 : (1 : Int) < (t.length : Int) := of_decide_eq_true hq
    have h5 : ¬ x0 = 48 := fun e => h3 ⟨by omega, e⟩
    refine Bool.eq_false_iff.2 fun e => h5 ?_
    have e2 : (x0.toNat : Int) = 48 := eq_of_beq e
    exact UInt8.toNat_inj.1 (show x0.toNat = 48 by omega))

end Go.Proofs.YtogidaebbelbfaaGreatDoor

namespace Go.Proofs.YtogidaebbelbfaaGreatDoor
open Go.RowKit Go.Maps Go.WideMaps

theorem IAt.take {w : World} {a : Option Addr} {n k : Nat} {l : List Int} (h : IAt w a n l) (hk : k ≤ n) : IAt w a k (l.take k) := by
  obtain ⟨hn, h⟩ := h
  refine ⟨by simp; omega, ?_⟩
  rcases h with h | ⟨b, off, rfl, hb, hc⟩
  · exact .inl (by omega)
  · refine .inr ⟨b, off, rfl, hb, fun j hj => ?_⟩
    rw [hc j (by omega)]
    simp [List.getD, hj]
end Go.Proofs.YtogidaebbelbfaaGreatDoor

namespace Go.Proofs.YtogidaebbelbfaaGreatDoor
open Go.RowKit Go.Shelf Go.Maps Go.WideMaps

theorem dgt_toNat {u : Nat} (h : u < 10) : (UInt8.ofNat (48 + u)).toNat = 48 + u := by
  simp [UInt8.toNat_ofNat']; omega
theorem dgt_is {u : Nat} (h : u < 10) : isDg (UInt8.ofNat (48 + u)) = true := by
  unfold isDg; rw [dgt_toNat h]; simp; omega
theorem digs_all (u : Nat) : (Lib.decDigits u).all isDg = true := by
  induction u using Nat.strongRecOn with
  | _ u ih =>
    rw [Lib.decDigits]
    by_cases h : u < 10
    · rw [dif_pos h, List.all_cons, dgt_is h]; rfl
    · rw [dif_neg h, List.all_append, ih (u / 10) (by omega)]
      rw [List.all_cons, dgt_is (show u % 10 < 10 by omega)]; rfl
theorem digs_val (u : Nat) : valD (Lib.decDigits u) = u := by
  induction u using Nat.strongRecOn with
  | _ u ih =>
    rw [Lib.decDigits]
    by_cases h : u < 10
    · rw [dif_pos h]
      have := dgt_toNat h
      show 0 * 10 + ((UInt8.ofNat (48 + u)).toNat - 48) = u
      rw [this]; omega
    · rw [dif_neg h, valD_snoc, ih (u / 10) (by omega), dgt_toNat (show u % 10 < 10 by omega)]
      omega
theorem digs_ne (u : Nat) : Lib.decDigits u ≠ [] := by
  rw [Lib.decDigits]
  by_cases h : u < 10
  · rw [dif_pos h]; simp
  · rw [dif_neg h]; simp
theorem getD_append_left {l r : List UInt8} (h : l ≠ []) : (l ++ r).getD 0 0 = l.getD 0 0 := by
  cases l with
  | nil => exact absurd rfl h
  | cons a t => rfl
theorem digs_head (u : Nat) (h : 1 ≤ u) : (Lib.decDigits u).getD 0 0 ≠ 48 := by
  induction u using Nat.strongRecOn with
  | _ u ih =>
    rw [Lib.decDigits]
    by_cases h1 : u < 10
    · rw [dif_pos h1]
      intro e
      have e2 : UInt8.ofNat (48 + u) = 48 := e
      have := congrArg UInt8.toNat e2
      rw [dgt_toNat h1] at this
      simp at this
      omega
    · rw [dif_neg h1, getD_append_left (digs_ne _)]
      exact ih (u / 10) (by omega) (by omega)
theorem digs_short {u : Nat} : ∀ {n : Nat}, u < 10 ^ n → 1 ≤ n → (Lib.decDigits u).length ≤ n := by
  induction u using Nat.strongRecOn with
  | _ u ih =>
    intro n h hn
    rw [Lib.decDigits]
    by_cases h1 : u < 10
    · rw [dif_pos h1]; simpa using hn
    · rw [dif_neg h1, List.length_append, List.length_singleton]
      obtain ⟨m, rfl⟩ : ∃ m, n = m + 1 := ⟨n - 1, by omega⟩
      rw [Nat.pow_succ] at h
      have hm : 1 ≤ m := by
        rcases m with _ | m
        · simp at h; omega
        · omega
      have := ih (u / 10) (by omega) (n := m) (by omega) hm
      omega
theorem digs_one {u : Nat} (h : 1 < (Lib.decDigits u).length) : 10 ≤ u := by
  by_cases h1 : u < 10
  · rw [Lib.decDigits, dif_pos h1] at h; simp at h
  · omega
theorem numR_dec {v : Int} {n : Nat} (h0 : 0 ≤ v) (h1 : v < ((10 ^ n : Nat) : Int)) (hn : 1 ≤ n) : numR (dec v) n = (v, true) := by
  obtain ⟨u, rfl⟩ := Int.eq_ofNat_of_zero_le h0
  have hu : u < 10 ^ n := by exact_mod_cast h1
  have hs := digs_short hu hn
  have hne := digs_ne u
  have hl : 0 < (Lib.decDigits u).length := List.length_pos_iff.2 hne
  show numR (Lib.decDigits u) n = _
  unfold numR
  rw [if_neg, if_pos (digs_all u), digs_val]
  rintro (h | h | ⟨h, h'⟩)
  · omega
  · omega
  · exact digs_head u (by have := digs_one h; omega) h'
theorem valD_pos {t : List UInt8} (h : t.all isDg = true) (hne : t ≠ []) (hh : t.getD 0 0 ≠ 48) : 1 ≤ valD t := by
  revert h hne hh
  refine snoc_ind (P := fun t => t.all isDg = true → t ≠ [] → t.getD 0 0 ≠ 48 → 1 ≤ valD t) (fun _ h _ => absurd rfl h) (fun t b ih h _ hh => ?_) t
  rw [List.all_append] at h
  simp only [Bool.and_eq_true, List.all_cons, List.all_nil, Bool.and_true] at h
  rw [valD_snoc]
  by_cases e : t = []
  · subst e
    have hb := dg_le h.2
    have : b.toNat ≠ 48 := fun e => hh (UInt8.toNat_inj.1 (by simpa using e))
    omega
  · rw [getD_append_left e] at hh
    have := ih h.1 e hh
    omega
theorem digs_of {t : List UInt8} (h : t.all isDg = true) (hne : t ≠ []) (hh : 1 < t.length → t.getD 0 0 ≠ 48) : Lib.decDigits (valD t) = t := by
  revert h hne hh
  refine snoc_ind (P := fun t => t.all isDg = true → t ≠ [] → (1 < t.length → t.getD 0 0 ≠ 48) → Lib.decDigits (valD t) = t) (fun _ h _ => absurd rfl h) (fun t b ih h _ hh => ?_) t
  rw [List.all_append] at h
  simp only [Bool.and_eq_true, List.all_cons, List.all_nil, Bool.and_true] at h
  have hb := dg_le h.2
  have eb : UInt8.ofNat (48 + (b.toNat - 48)) = b := by
    rw [show 48 + (b.toNat - 48) = b.toNat by omega]
    simp
  rw [valD_snoc]
  by_cases e : t = []
  · subst e
    have e0 : valD [] * 10 + (b.toNat - 48) = b.toNat - 48 := by simp [valD]
    rw [e0, Lib.decDigits, dif_pos (by omega), eb]
    rfl
  · have hl : 0 < t.length := List.length_pos_iff.2 e
    have h2 := hh (by rw [List.length_append, List.length_singleton]; omega)
    rw [getD_append_left e] at h2
    have h3 := valD_pos h.1 e h2
    rw [Lib.decDigits, dif_neg (by omega), show (valD t * 10 + (b.toNat - 48)) / 10 = valD t by omega, show (valD t * 10 + (b.toNat - 48)) % 10 = b.toNat - 48 by omega, ih h.1 e (fun _ => h2), eb]
theorem numR_sound {t : List UInt8} {n : Nat} (h : (numR t n).2 = true) : dec (numR t n).1 = t ∧ 0 ≤ (numR t n).1 := by
  unfold numR at h ⊢
  by_cases h1 : t.length < 1 ∨ n < t.length ∨ (1 < t.length ∧ t.getD 0 0 = 48)
  · rw [if_pos h1] at h; cases h
  · rw [if_neg h1] at h ⊢
    by_cases h2 : t.all isDg = true
    · rw [if_pos h2]
      refine ⟨?_, by simp⟩
      show Lib.decDigits ((valD t : Int)).toNat = t
      rw [Int.toNat_natCast]
      exact digs_of h2 (fun e => h1 (.inl (by rw [e]; simp))) (fun hl e => h1 (.inr (.inr ⟨hl, e⟩)))
    · rw [if_neg h2] at h; cases h
theorem join_cut (c : UInt8) (t : List UInt8) : Lib.join (cutL c t) [c] = t := by
  unfold Lib.join
  induction t with
  | nil => simp [cutL, List.intercalate]
  | cons b t ih =>
    unfold cutL
    cases e : cutL c t with
    | nil => exact absurd e (cutL_ne c t)
    | cons x r =>
      rw [e] at ih
      by_cases h : b = c
      · rw [if_pos h]
        have : List.intercalate [c] ([] :: x :: r) = c :: List.intercalate [c] (x :: r) := by simp [List.intercalate, List.intersperse]
        rw [this, ih, h]
      · rw [if_neg h]
        have : List.intercalate [c] ((b :: x) :: r) = b :: List.intercalate [c] (x :: r) := by
          cases r <;> simp [List.intercalate, List.intersperse]
        show List.intercalate [c] ((b :: x) :: r) = _
        rw [this, ih]

theorem dec_dg (v : Int) : ∀ b ∈ dec v, 48 ≤ b.toNat ∧ b.toNat ≤ 57 := fun b hb => dg_le (List.all_eq_true.1 (digs_all v.toNat) b hb)
theorem not_dec {c : UInt8} (hc : c.toNat < 48) (v : Int) : c ∉ dec v := fun h => by have := dec_dg v c h; omega
end Go.Proofs.YtogidaebbelbfaaGreatDoor

namespace Go.Proofs.YtogidaebbelbfaaGreatDoor
open Go.RowKit Go.Shelf Go.Maps Go.WideMaps

theorem int_added {W : World} {lo j : Nat} {v : Value} {xs : List Value} {k : Int} (h : W.ownsRow lo 2 1 v j xs) (hj : j ≤ 4000000) (hlo : lo ≤ W.heap.size) :
    ∃ g cap w5, (Builtin.append_ #[93, 93] 93 #[v, .slice (some ⟨W.heap.size, 0, none⟩) 1 1]).run Tryz.prog (W.alloc (.cells #[.int .i64 k] 2)) = .ok (.slice (some ⟨g, 0, none⟩) (j + 1) cap) w5 ∧
      Hid (w5.ownsRow lo 2 1 (.slice (some ⟨g, 0, none⟩) (j + 1) cap) (j + 1) (xs ++ [.int .i64 k]) ∧ Below lo W w5) := by
  obtain ⟨i0, hi, hz0, hz1, hz2⟩ := info_parts Tryz.infoI64
  obtain ⟨v', w5, hrun, hown', hgrow, hsome⟩ := run_append_own (P := Tryz.prog) (W.alloc (.cells #[.int .i64 k] 2)) lo 93 93 2 i0 (.int .i64 0) 1 8 Tryz.underlying93 hi hz0 hz1 hz2 rfl (by decide) v j xs (h.alloc _) ⟨W.heap.size, 0, none⟩ 1 1 [.int .i64 k] rfl (World.news_of_block (heap_alloc_new _ _)) (by
    intro z hz
    simp only [List.mem_cons, List.not_mem_nil, or_false] at hz
    rw [hz]; rfl) (by unfold maxLen; omega) (by omega) (by simp; omega)
  obtain ⟨g, cap, rfl⟩ := ownsRow_succ hown'
  exact ⟨g, cap, w5, hrun, hown', ((below_box _).mono hlo).grown hgrow (by simp; omega) (fun k hk => (h.lt k hk).1)⟩
theorem ints_more (l : List Int) (k : Int) : ints (l ++ [k]) = ints l ++ [.int .i64 k] := by simp [ints]
theorem row_cells5 {w : World} {base g vc : Nat} {w0 w1 w2 w3 w4 : List UInt8} (h : w.ownsRow base 9 1 (.slice (some ⟨g, 0, none⟩) 5 vc) 5 (texts [w0, w1, w2, w3, w4])) :
    w.cell? ⟨g, 0, none⟩ = some (.string (str w0)) ∧ w.cell? ⟨g, 1, none⟩ = some (.string (str w1)) ∧ w.cell? ⟨g, 2, none⟩ = some (.string (str w2)) ∧ w.cell? ⟨g, 3, none⟩ = some (.string (str w3)) ∧ w.cell? ⟨g, 4, none⟩ = some (.string (str w4)) :=
  ⟨h.cellAt 0 (by omega), h.cellAt 1 (by omega), h.cellAt 2 (by omega), h.cellAt 3 (by omega), h.cellAt 4 (by omega)⟩
theorem row_some {w : World} {base n vc : Nat} {va : Option Addr} {e : TypeId} {size : Nat} {xs : List Value} (h : w.ownsRow base e size (.slice va n vc) n xs) (hn : n ≠ 0) : ∃ g, va = some ⟨g, 0, none⟩ := by
  rcases h.2 with ⟨q, q0⟩ | ⟨g, cap, cur, q, _⟩
  · exact absurd q0 hn
  · cases q; exact ⟨g, rfl⟩
theorem str_is (a b : List UInt8) : ((str a).toList == b) = decide (a = b) := by
  have e : (str a).toList = a := by simp [str]
  rw [e]
  by_cases h : a = b
  · rw [h]; simp
  · rw [decide_eq_false h]; exact beq_false_of_ne h
theorem take_nextL {l : List (List UInt8)} {k : Nat} {x : List UInt8} (hk : k < l.length) (hx : x = l.getD k []) : l.take (k + 1) = l.take k ++ [x] := by
  rw [List.take_add_one, hx]
  simp [List.getD, hk]
theorem row_caps {w : World} {base n vc : Nat} {va : Option Addr} {xs : List Value} (h : w.ownsRow base 2 1 (.slice va n vc) n xs) : n ≤ vc ∧ vc ≤ maxLen := by
  rcases h.2 with ⟨q, q0⟩ | ⟨g, cap, cur, q, _, _, k1, k2, _⟩
  · cases q; exact ⟨Nat.le_refl _, by unfold maxLen; omega⟩
  · cases q; exact ⟨k1, k2⟩
theorem iat_row {w : World} {base n vc : Nat} {va : Option Addr} {l : List Int} (h : w.ownsRow base 2 1 (.slice va n vc) n (ints l)) (hn : l.length = n) : IAt w va n l := IAt.owned h hn
theorem Chg.cell {w w' : World} {lo hi b i : Nat} (h : Chg w w' lo hi) (hb : b < w.heap.size) (hd : b < lo ∨ hi ≤ b) : w'.cell? ⟨b, i, none⟩ = w.cell? ⟨b, i, none⟩ := World.cell?_of_block (h.block b hb hd)
theorem four_set_heap {w : World} {b : Nat} {c : Nat} (hne : c ≠ b) (v0 v1 v2 v3 : Value) : ((((w.setCell ⟨b, 0, none⟩ v0).setCell ⟨b, 1, none⟩ v1).setCell ⟨b, 2, none⟩ v2).setCell ⟨b, 3, none⟩ v3).heap[c]? = w.heap[c]? :=
  (Below.heap_setCell _ ⟨b, 3, none⟩ _ c hne).trans ((Below.heap_setCell _ ⟨b, 2, none⟩ _ c hne).trans ((Below.heap_setCell _ ⟨b, 1, none⟩ _ c hne).trans (Below.heap_setCell _ ⟨b, 0, none⟩ _ c hne)))
theorem cells_heap {V W : World} {b : Nat} {v0 v1 v2 v3 : Value} (k : V.heap[b]? = W.heap[b]?) (h : W.cell? ⟨b, 0, none⟩ = some v0 ∧ W.cell? ⟨b, 1, none⟩ = some v1 ∧ W.cell? ⟨b, 2, none⟩ = some v2 ∧ W.cell? ⟨b, 3, none⟩ = some v3) :
    V.cell? ⟨b, 0, none⟩ = some v0 ∧ V.cell? ⟨b, 1, none⟩ = some v1 ∧ V.cell? ⟨b, 2, none⟩ = some v2 ∧ V.cell? ⟨b, 3, none⟩ = some v3 :=
  ⟨(World.cell?_of_block k).trans h.1, (World.cell?_of_block k).trans h.2.1, (World.cell?_of_block k).trans h.2.2.1, (World.cell?_of_block k).trans h.2.2.2⟩
theorem keepR4 {W : World} {b R : Nat} {v0 v1 v2 v3 u0 u1 u2 u3 : Value} (h : W.cell? ⟨b, 0, none⟩ = some v0 ∧ W.cell? ⟨b, 1, none⟩ = some v1 ∧ W.cell? ⟨b, 2, none⟩ = some v2 ∧ W.cell? ⟨b, 3, none⟩ = some v3) (hne : b ≠ R) :
    ((((W.setCell ⟨R, 0, none⟩ u0).setCell ⟨R, 1, none⟩ u1).setCell ⟨R, 2, none⟩ u2).setCell ⟨R, 3, none⟩ u3).cell? ⟨b, 0, none⟩ = some v0 ∧ ((((W.setCell ⟨R, 0, none⟩ u0).setCell ⟨R, 1, none⟩ u1).setCell ⟨R, 2, none⟩ u2).setCell ⟨R, 3, none⟩ u3).cell? ⟨b, 1, none⟩ = some v1 ∧ ((((W.setCell ⟨R, 0, none⟩ u0).setCell ⟨R, 1, none⟩ u1).setCell ⟨R, 2, none⟩ u2).setCell ⟨R, 3, none⟩ u3).cell? ⟨b, 2, none⟩ = some v2 ∧ ((((W.setCell ⟨R, 0, none⟩ u0).setCell ⟨R, 1, none⟩ u1).setCell ⟨R, 2, none⟩ u2).setCell ⟨R, 3, none⟩ u3).cell? ⟨b, 3, none⟩ = some v3 := by
  exact cells_heap (four_set_heap hne u0 u1 u2 u3) h
end Go.Proofs.YtogidaebbelbfaaGreatDoor
