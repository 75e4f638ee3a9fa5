/- The program fills its purse with coins. A text cut at a byte: what it comes to, and the specification's. A number read: what it comes to, and the specification's. The fault of a block: what it comes to, the specification's, the program's. Numbers and blocks, written and read back: no program in it. A rule is read: what it comes to, without a world. Two rules held against each other: the specification's way and the program's. Two rules held against each other, boxed: the specification's way. What SameRules answers: the specification's and the program's. What the law on rules comes to, without a world: a rule that is met stays met later and with one more signature. -/
import Derived.Test.YtajkihmefpbofaaGreatDoorCm
import Derived.Test.YtajkihmefpbofaaGreatDoorRu
import Derived.Test.YtajkihmefpbofaaGreatDoorX2
import Derived.Test.YtajkihmefpbofaaGreatDoorOp
import Derived.Deep.Slices
import Derived.Maps.OwnSet
import Derived.Maps.Range
import Derived.Test.YtajkihmefpbofaaGreatDoorRtS
import Derived.Test.YtajkihmefpbofaaGreatDoorTtX
import Derived.Test.YtajkihmefpbofaaGreatDoorRtT
import Derived.Test.YtajkihmefpbofaaGreatDoorLOwnedBy
import Derived.Test.YtajkihmefpbofaaGreatDoorX1
import Derived.Test.YtajkihmefpbofaaGreatDoorRtI
import Derived.Test.YtajkihmefpbofaaGreatDoorRtU
import Derived.Lib.IndexMore
import Derived.Lib.ParseIntBTie
import Derived.Test.YtajkihmefpbofaaGreatDoorKg
import Derived.Test.YtajkihmefpbofaaGreatDoorMet
namespace Go.Proofs.YtajkihmefpbofaaGreatDoor
open Go.RowKit Go.Maps Go.WideMaps

/-- An append in a plain region, out of its own run. -/
theorem wpList_append_runC {P : Program} {w : World} {ops : Array Oper} {rest : List Oper} {o : Oper} {a : Act} {Q : Exit → Act → World → Prop} (hgd : o.guard = none) (s x : Operand) (t : TypeId)
    (hop : o.op = .call { callee := .builtin .append, args := #[s, x], argTypes := #[t, t] }) {v u v' : Value} {w' : World} (hs : a.eval s = v) (hx : a.eval x = u) (hrun : (Builtin.append_ #[t, t] o.type #[v, u]).run P w = .ok v' w') (h : wpList P ops Q rest (a.put o.dst v') w') :
    wpList P ops Q (o :: rest) a w :=
  wpList_plain hgd fun _ hK => by
    unfold Oper.wp
    simp [execOp, hop, resolve, invoke, builtin, hs, hx, hrun, Result.andThen]
    exact hK _ _ h

end Go.Proofs.YtajkihmefpbofaaGreatDoor

namespace Go.Proofs.YtajkihmefpbofaaGreatDoor
open Go.RowKit Go.Shelf Go.Maps Go.WideMaps

def cutL (c : UInt8) : List UInt8 → List (List UInt8)
  | [] => [[]]
  | b :: t => if b = c then [] :: cutL c t else (match cutL c t with | [] => [[b]] | x :: r => (b :: x) :: r)
theorem cutL_ne (c : UInt8) (t : List UInt8) : cutL c t ≠ [] := by
  cases t with
  | nil => simp [cutL]
  | cons b t =>
    unfold cutL
    by_cases h : b = c
    · rw [if_pos h]; simp
    · rw [if_neg h]; cases cutL c t <;> simp
theorem cutL_one {c : UInt8} {t : List UInt8} (h : c ∉ t) : cutL c t = [t] := by
  induction t with
  | nil => rfl
  | cons b t ih =>
    have h1 : ¬ b = c := fun e => h (by rw [e]; exact List.mem_cons_self ..)
    rw [cutL, if_neg h1, ih (fun e => h (List.mem_cons_of_mem _ e))]
theorem cutL_at {c : UInt8} {s r : List UInt8} (h : c ∉ s) : cutL c (s ++ c :: r) = s :: cutL c r := by
  induction s with
  | nil => simp [cutL]
  | cons b t ih =>
    have h1 : ¬ b = c := fun e => h (by rw [e]; exact List.mem_cons_self ..)
    rw [List.cons_append, cutL, if_neg h1, ih (fun e => h (List.mem_cons_of_mem _ e))]
theorem cutL_len (c : UInt8) (t : List UInt8) : (cutL c t).length ≤ t.length + 1 := by
  induction t with
  | nil => simp [cutL]
  | cons b t ih =>
    unfold cutL
    by_cases h : b = c
    · rw [if_pos h]; simp; omega
    · rw [if_neg h]
      cases e : cutL c t with
      | nil => exact absurd e (cutL_ne c t)
      | cons x r => rw [e] at ih; simp at ih ⊢; omega
theorem cutL_sub (c : UInt8) (t : List UInt8) : ∀ x ∈ cutL c t, x.length ≤ t.length := by
  induction t with
  | nil => intro x hx; simp [cutL] at hx; simp [hx]
  | cons b t ih =>
    intro x hx
    unfold cutL at hx
    by_cases h : b = c
    · rw [if_pos h] at hx
      rcases List.mem_cons.1 hx with rfl | hx
      · simp
      · have := ih x hx; simp; omega
    · rw [if_neg h] at hx
      cases e : cutL c t with
      | nil => exact absurd e (cutL_ne c t)
      | cons y r =>
        rw [e] at hx
        rcases List.mem_cons.1 hx with rfl | hx
        · have := ih y (by rw [e]; exact List.mem_cons_self ..); simp; omega
        · have := ih x (by rw [e]; exact List.mem_cons_of_mem _ hx); simp; omega

/-- So far: the pieces ahead of f are told, and there is no cut from f to k. -/
def CutI (c : UInt8) (t : List UInt8) (ps : List (List UInt8)) (f k : Nat) : Prop :=
  (k ≤ t.length ∧ f ≤ k ∧ cutL c t = ps ++ cutL c (t.drop f) ∧ c ∉ (t.drop f).take (k - f)) ∨ (k = t.length + 1 ∧ cutL c t = ps)
theorem CutI.hit {c : UInt8} {t : List UInt8} {ps : List (List UInt8)} {f k : Nat} (h : CutI c t ps f k) (hk : k < t.length) (hc : t.getD k 0 = c) : CutI c t (ps ++ [(t.drop f).take (k - f)]) (k + 1) (k + 1) := by
  rcases h with ⟨h1, h2, h3, h4⟩ | ⟨h1, _⟩
  · have e : t.drop f = (t.drop f).take (k - f) ++ c :: t.drop (k + 1) := by
      have e1 : t.drop k = c :: t.drop (k + 1) := by
        rw [List.drop_eq_getElem_cons hk]
        have : t[k] = c := by rw [← hc]; simp [List.getD, hk]
        rw [this]
      rw [← e1, show t.drop k = (t.drop f).drop (k - f) by rw [List.drop_drop]; congr 1; omega, List.take_append_drop]
    refine .inl ⟨by omega, Nat.le_refl _, ?_, by simp⟩
    rw [h3]
    conv => lhs; rw [e, cutL_at h4]
    simp
  · omega
theorem CutI.miss {c : UInt8} {t : List UInt8} {ps : List (List UInt8)} {f k : Nat} (h : CutI c t ps f k) (hk : k < t.length) (hc : ¬ t.getD k 0 = c) : CutI c t ps f (k + 1) := by
  rcases h with ⟨h1, h2, h3, h4⟩ | ⟨h1, _⟩
  · refine .inl ⟨by omega, by omega, h3, ?_⟩
    rw [show k + 1 - f = (k - f) + 1 by omega, List.take_add_one]
    intro hm
    rcases List.mem_append.1 hm with hm | hm
    · exact h4 hm
    · have e : (t.drop f)[k - f]? = some (t.getD k 0) := by
        rw [List.getElem?_drop, show f + (k - f) = k by omega]
        simp [List.getD, hk]
      rw [e] at hm
      simp at hm
      exact hc hm.symm
  · omega
theorem CutI.last {c : UInt8} {t : List UInt8} {ps : List (List UInt8)} {f k : Nat} (h : CutI c t ps f k) (hk : k = t.length) : CutI c t (ps ++ [(t.drop f).take (k - f)]) (k + 1) (k + 1) := by
  rcases h with ⟨h1, h2, h3, h4⟩ | ⟨h1, _⟩
  · have e : (t.drop f).take (k - f) = t.drop f := List.take_of_length_le (by rw [List.length_drop]; omega)
    rw [e] at h4 ⊢
    exact .inr ⟨by omega, by rw [h3, cutL_one h4]⟩
  · omega
theorem CutI.done {c : UInt8} {t : List UInt8} {ps : List (List UInt8)} {f k : Nat} (h : CutI c t ps f k) (hk : ¬ k ≤ t.length) : cutL c t = ps := by
  rcases h with ⟨h1, _⟩ | ⟨_, h2⟩
  · exact absurd h1 hk
  · exact h2

theorem str_cut (t : List UInt8) (f k : Nat) : (str t).extract f k = str ((t.drop f).take (k - f)) := by
  apply ByteArray.ext
  simp [str]

/-- A text more: what the append leaves. -/
theorem text_added {W : World} {lo j : Nat} {v : Value} {ps : List (List UInt8)} {s : ByteArray} (h : W.ownsRow lo 9 1 v j (texts ps)) (hj : j ≤ 4000000) (hlo : lo ≤ W.heap.size) :
    ∃ g cap w5, (Builtin.append_ #[24, 24] 24 #[v, .slice (some ⟨W.heap.size, 0, none⟩) 1 1]).run Tryz.prog (W.alloc (.cells #[.string s] 9)) = .ok (.slice (some ⟨g, 0, none⟩) (j + 1) cap) w5 ∧
      Hid (w5.ownsRow lo 9 1 (.slice (some ⟨g, 0, none⟩) (j + 1) cap) (j + 1) (texts ps ++ [.string s]) ∧ Below lo W w5) := by
  obtain ⟨i0, hi, hz0, hz1, hz2⟩ := info_parts Tryz.infoStr
  obtain ⟨v', w5, hrun, hown', hgrow, hsome⟩ := run_append_own (P := Tryz.prog) (W.alloc (.cells #[.string s] 9)) lo 24 24 9 i0 (.string ByteArray.empty) 1 16 Tryz.underlying24 hi hz0 hz1 hz2 rfl (by decide) v j (texts ps) (h.alloc _) ⟨W.heap.size, 0, none⟩ 1 1 [.string s] rfl (World.news_of_block (heap_alloc_new _ _)) (by
    intro z hz
    simp only [List.mem_cons, List.not_mem_nil, or_false] at hz
    rw [hz]; rfl) (by unfold maxLen; omega) (by omega) (by simp; omega)
  obtain ⟨g, cap, rfl⟩ := ownsRow_succ hown'
  exact ⟨g, cap, w5, hrun, hown', ((below_box _).mono hlo).grown hgrow (by simp; omega) (fun k hk => (h.lt k hk).1)⟩

set_option maxRecDepth 20000 in
set_option maxHeartbeats 2000000 in
theorem l2Cut_any (t : List UInt8) (c : UInt8) (w : World) (ht : t.length ≤ 1048576) :
    Calls Tryz.prog 69 #[.string (str t), .int .u8 (c.toNat : Int)] w fun e w' => ∃ va vc, e = .returned (.slice va (cutL c t).length vc) ∧ w'.ownsRow w.heap.size 9 1 (.slice va (cutL c t).length vc) (cutL c t).length (texts (cutL c t)) ∧ Below w.heap.size w w' := by
  have hss : (str t).size = t.length := rfl
  have hex : ∀ f k : Nat, (str t).extract f k = str ((t.drop f).take (k - f)) := str_cut t
  obtain ⟨i0, hi, hz0, hz1, hz2⟩ := info_parts Tryz.infoStr
  go_enter Tryz.func69, Tryz.ntmps69
  go_wp2
  go_loopw [5, 6, 7] (fun v fr i wr => ∃ k f : Nat, k ≤ t.length + 1 ∧ f ≤ k ∧ i = .int .i64 k ∧ fr = .int .i64 f ∧ Below w.heap.size w wr ∧ ∃ g vc, ∃ ps : List (List UInt8), v = .slice (some ⟨g, 0, none⟩) ps.length vc ∧ ps.length ≤ k ∧ Hid (wr.ownsRow w.heap.size 9 1 (.slice (some ⟨g, 0, none⟩) ps.length vc) ps.length (texts ps)) ∧ Hid (CutI c t ps f k)) (fun _ _ i _ => t.length + 1 - (intOf i).toNat)
  case atStart => exact ⟨0, 0, by omega, Nat.le_refl _, rfl, rfl, below_box _, w.heap.size, 0, [], rfl, Nat.le_refl _, ⟨rfl, .inr ⟨w.heap.size, 0, #[], rfl, Nat.le_refl _, heap_alloc_new _ _, Nat.le_refl _, by unfold maxLen; omega, rfl, rfl⟩⟩, .inl ⟨by omega, Nat.le_refl _, by simp, by simp⟩⟩
  case round =>
    obtain ⟨k, f, hk, hf, rfl, rfl, hbel, g, vc, ps, rfl, hpk, HO, HC⟩ := hrel
    by_cases hlt : k ≤ t.length
    · have hle : (k : Int) ≤ (t.length : Int) := by omega
      have hfi : (f : Int) ≤ (k : Int) := by omega
      have hf0 : (0 : Int) ≤ (f : Int) := by omega
      have hk0 : (0 : Int) ≤ (k : Int) := by omega
      obtain ⟨pc, hpc⟩ : ∃ q, q = (t.drop f).take (k - f) := ⟨_, rfl⟩
      have hxk : (str t).extract f k = str pc := by rw [hex, hpc]
      have HPC : Hid (pc = (t.drop f).take (k - f)) := hpc
      have hsz := hbel.size
      obtain ⟨g5, cap, w5, hrun, HC5⟩ := text_added (s := str pc) HO.out (by omega) hsz
      by_cases he : k = t.length
      · have hee : ((k : Int) == (t.length : Int)) = true := by simp [he]
        have HN : Hid (CutI c t (ps ++ [pc]) (k + 1) (k + 1)) := by rw [HPC.out]; exact HC.out.last he
        clear he hpc hex
        go_wp2_with (first | (at_builtin; go_must (refine wpList_append_runC (by rfl) _ _ _ (by rfl) (by rfl) (by rfl) hrun ?_); clear hrun))
        go_roundw
        case rel => exact ⟨k + 1, k + 1, by omega, by omega, by go_num, by go_num, hbel.trans (HC5.out.2.mono (Nat.le_refl _)), g5, cap, ps ++ [pc], by simp, by simp; omega, by rw [List.length_append, texts_more]; exact HC5.out.1, HN.out⟩
        case measure => simp [intOf]; omega
      · have hki : (k : Int) < (t.length : Int) := by omega
        have hee : ((k : Int) == (t.length : Int)) = false := by simp; omega
        have hen : (k == t.length) = false := by simp; omega
        obtain ⟨x, hx⟩ : ∃ x, x = t.getD k 0 := ⟨_, rfl⟩
        have hix : ∀ hh, (str t)[k]'hh = x := fun hh => by
          rw [hx]
          have : k < t.length := by omega
          simp [List.getD, this, str, ByteArray.getElem_eq_getElem_data]
        have HX : Hid (t.getD k 0 = x) := hx.symm
        by_cases hc : x = c
        · have hcc : ((x.toNat : Int) == (c.toNat : Int)) = true := by simp [hc]
          have HN : Hid (CutI c t (ps ++ [pc]) (k + 1) (k + 1)) := by rw [HPC.out]; exact HC.out.hit (by omega) (by rw [HX.out]; exact hc)
          clear he hpc hex hx hc
          go_wp2_with (first | (at_builtin; go_must (refine wpList_append_runC (by rfl) _ _ _ (by rfl) (by rfl) (by rfl) hrun ?_); clear hrun))
          go_roundw
          case rel => exact ⟨k + 1, k + 1, by omega, by omega, by go_num, by go_num, hbel.trans (HC5.out.2.mono (Nat.le_refl _)), g5, cap, ps ++ [pc], by simp, by simp; omega, by rw [List.length_append, texts_more]; exact HC5.out.1, HN.out⟩
          case measure => simp [intOf]; omega
        · have hcc : ((x.toNat : Int) == (c.toNat : Int)) = false := by
            simp
            intro e
            exact hc (UInt8.toNat_inj.1 (by omega))
          have HN : Hid (CutI c t ps f (k + 1)) := HC.out.miss (by omega) (by rw [HX.out]; exact hc)
          clear he hpc hex hx hc hrun
          go_wp2
          go_roundw
          case rel => exact ⟨k + 1, f, by omega, by omega, by go_num, rfl, hbel, g, vc, ps, rfl, by omega, HO, HN⟩
          case measure => simp [intOf]; omega
    · have e1 := HC.out.done hlt
      clear hex
      go_wp2
      go_ret
      rw [e1]
      exact ⟨_, _, rfl, HO.out, hbel⟩

end Go.Proofs.YtajkihmefpbofaaGreatDoor

namespace Go.Proofs.YtajkihmefpbofaaGreatDoor
open Go.RowKit Go.Shelf Go.Maps Go.WideMaps

def isDg (b : UInt8) : Bool := decide (48 ≤ b.toNat ∧ b.toNat ≤ 57)
def valD (t : List UInt8) : Nat := t.foldl (fun v b => v * 10 + (b.toNat - 48)) 0
def numR (t : List UInt8) (n : Nat) : Int × Bool :=
  if t.length < 1 ∨ n < t.length ∨ (1 < t.length ∧ t.getD 0 0 = 48) then (0, false) else if t.all isDg = true then ((valD t : Int), true) else (0, false)
theorem valD_snoc (t : List UInt8) (b : UInt8) : valD (t ++ [b]) = valD t * 10 + (b.toNat - 48) := by simp [valD]
theorem dg_le {b : UInt8} (h : isDg b = true) : 48 ≤ b.toNat ∧ b.toNat ≤ 57 := by simpa [isDg] using h
theorem snoc_ind {α : Type} {P : List α → Prop} (h0 : P []) (h1 : ∀ l a, P l → P (l ++ [a])) (l : List α) : P l := by
  rw [← List.reverse_reverse l]
  induction l.reverse with
  | nil => exact h0
  | cons a t ih => rw [List.reverse_cons]; exact h1 _ _ ih
theorem take_nextB {t : List UInt8} {k : Nat} {x : UInt8} (hk : k < t.length) (hx : x = t.getD k 0) : t.take (k + 1) = t.take k ++ [x] := by
  rw [List.take_add_one, hx]
  simp [List.getD, hk]

set_option maxRecDepth 20000 in
set_option maxHeartbeats 2000000 in
theorem l2Number_any (t : List UInt8) (n : Nat) (w : World) (ht : t.length ≤ 1048576) (hn : n ≤ 7) :
    Calls Tryz.prog 70 #[.string (str t), .int .i64 n] w fun e w' => e = .returned (.tuple #[.int .i64 (numR t n).1, .bool (numR t n).2]) ∧ w' = w := by
  have hss : (str t).size = t.length := rfl
  have hix : ∀ (k : Nat) hh, (str t)[k]'hh = t.getD k 0 := fun k hh => by
    have : k < t.length := hh
    simp [List.getD, this, str, ByteArray.getElem_eq_getElem_data]
  obtain ⟨rv, hrv⟩ : ∃ r, r = (numR t n).1 := ⟨_, rfl⟩
  obtain ⟨rb, hrb⟩ : ∃ r, r = (numR t n).2 := ⟨_, rfl⟩
  rw [← hrv, ← hrb]
  have HR : Hid ((rv, rb) = numR t n) := by rw [hrv, hrb]; rfl
  clear hrv hrb
  by_cases h1 : t.length < 1
  · obtain ⟨rfl, rfl⟩ : rv = 0 ∧ rb = false := Prod.mk.inj (by rw [HR.out]; unfold numR; rw [if_pos (.inl h1)])
    have hd : decide ((t.length : Int) < 1) = true := by simp; omega
    go_enter Tryz.func70, Tryz.ntmps70
    go_wp2
    exact bodyPost_ret (v := .tuple #[.int .i64 0, .bool false]) (by simp [results, Tryz.results70, go_sem]) rfl ⟨rfl, rfl⟩
  have hd1 : decide ((t.length : Int) < 1) = false := by simp; omega
  by_cases h2 : n < t.length
  · obtain ⟨rfl, rfl⟩ : rv = 0 ∧ rb = false := Prod.mk.inj (by rw [HR.out]; unfold numR; rw [if_pos (.inr (.inl h2))])
    have hd2 : decide ((n : Int) < (t.length : Int)) = true := by simp; omega
    go_enter Tryz.func70, Tryz.ntmps70
    go_wp2
    exact bodyPost_ret (v := .tuple #[.int .i64 0, .bool false]) (by simp [results, Tryz.results70, go_sem]) rfl ⟨rfl, rfl⟩
  have hd2 : decide ((n : Int) < (t.length : Int)) = false := by simp; omega
  have hl7 : t.length ≤ 7 := by omega
  obtain ⟨x0, hx0⟩ : ∃ x, x = t.getD 0 0 := ⟨_, rfl⟩
  have hi0 : ∀ hh, (str t)[0]'hh = x0 := fun hh => by rw [hix, hx0]
  by_cases h3 : 1 < t.length ∧ x0 = 48
  · obtain ⟨rfl, rfl⟩ : rv = 0 ∧ rb = false := Prod.mk.inj (by rw [HR.out]; unfold numR; rw [if_pos (.inr (.inr ⟨h3.1, by rw [← hx0]; exact h3.2⟩))])
    have hd3 : decide ((1 : Int) < (t.length : Int)) = true := by simp; omega
    have hlt : (0 : Int) < (t.length : Int) := by omega
    have hx : ((x0.toNat : Int) == 48) = true := by rw [h3.2]; rfl
    clear h3 hx0 hix
    go_enter Tryz.func70, Tryz.ntmps70
    go_wp2
    exact bodyPost_ret (v := .tuple #[.int .i64 0, .bool false]) (by simp [results, Tryz.results70, go_sem]) rfl ⟨rfl, rfl⟩
  have HR2 : Hid ((rv, rb) = if t.all isDg = true then ((valD t : Int), true) else (0, false)) := by
    show _ = _
    rw [HR.out]; unfold numR
    rw [if_neg (by rw [← hx0]; rintro (h | h | h); exact h1 h; exact h2 h; exact h3 h)]
  have hlt0 : (0 : Int) < (t.length : Int) := by omega
  have key : ∀ q : Bool, (decide ((1 : Int) < (t.length : Int)) = q) → (q = true → ((x0.toNat : Int) == 48) = false) → Calls Tryz.prog 70 #[.string (str t), .int .i64 n] w fun e w' => e = .returned (.tuple #[.int .i64 rv, .bool rb]) ∧ w' = w := by
    intro q hd3 hq
    have HIX : Hid (∀ (k : Nat) hh, (str t)[k]'hh = t.getD k 0) := hix
    clear HR hx0 h3 hix
    cases q
    all_goals
      try (have hx := hq rfl)
      clear hq
      go_enter Tryz.func70, Tryz.ntmps70
      go_wp2
      go_loopw [6, 7] (fun v i wr => ∃ k : Nat, k ≤ t.length ∧ i = .int .i64 k ∧ (∃ z : Nat, v = .int .i64 z ∧ z < 10 ^ k ∧ Hid (valD (t.take k) = z ∧ (t.take k).all isDg = true)) ∧ wr = w) (fun _ i _ => t.length - (intOf i).toNat)
      case atStart => exact ⟨0, Nat.zero_le _, rfl, ⟨0, rfl, by simp, by simp [valD], by simp⟩, rfl⟩
      case round =>
        obtain ⟨k, hk, rfl, ⟨z, rfl, hz, HV⟩, hw⟩ := hrel
        have hw2 := hw.symm
        subst hw2
        by_cases hlt : k < t.length
        · obtain ⟨x, hx⟩ : ∃ x, x = t.getD k 0 := ⟨_, rfl⟩
          have hixk : ∀ hh, (str t)[k]'hh = x := fun hh => by rw [HIX.out, hx]
          have HX : Hid (x = t.getD k 0) := hx
          have hki : (k : Int) < (t.length : Int) := by omega
          have hz6 : z < 1000000 := Nat.lt_of_lt_of_le hz (Nat.pow_le_pow_right (by omega) (show k ≤ 6 by omega))
          clear hx
          by_cases hd : isDg x = true
          · have hb := dg_le hd
            have e1 : decide ((x.toNat : Int) < 48) = false := by simp; omega
            have e2 : decide ((57 : Int) < (x.toNat : Int)) = false := by simp; omega
            have e3 : IntKind.u8.wrap ((x.toNat : Int) - 48) = ((x.toNat - 48 : Nat) : Int) := by simp [IntKind.wrap, IntKind.bits, IntKind.signed]; omega
            have e4 : IntKind.i64.wrap ((x.toNat - 48 : Nat) : Int) = ((x.toNat - 48 : Nat) : Int) := IntWalk.i64_in _ (by omega)
            have e5 : IntKind.i64.wrap ((z : Int) * 10) = (z : Int) * 10 := IntWalk.i64_in _ (by omega)
            have e6 : IntKind.i64.wrap ((z : Int) * 10 + ((x.toNat - 48 : Nat) : Int)) = ((z * 10 + (x.toNat - 48) : Nat) : Int) := by rw [IntWalk.i64_in _ (by omega)]; omega
            have HV2 : Hid (valD (t.take (k + 1)) = z * 10 + (x.toNat - 48) ∧ (t.take (k + 1)).all isDg = true) := by
              rw [take_nextB hlt HX.out, valD_snoc, HV.out.1]
              exact ⟨rfl, by rw [List.all_append, HV.out.2]; simp [hd]⟩
            have hz2 : z * 10 + (x.toNat - 48) < 10 ^ (k + 1) := by rw [Nat.pow_succ]; omega
            obtain ⟨z2, hzz⟩ : ∃ z2, z2 = z * 10 + (x.toNat - 48) := ⟨_, rfl⟩
            rw [← hzz] at e6 HV2 hz2
            clear hd hb hzz
            go_wp2
            go_roundw
            case rel => exact ⟨k + 1, by omega, by go_num, ⟨z2, by first | rfl | (simp [e6]), hz2, HV2⟩, (by first | rfl | trivial)⟩
            case measure => simp [intOf]; omega
          · have hall : t.all isDg = false := by
              refine Bool.eq_false_iff.2 fun e => hd ?_
              rw [List.all_eq_true] at e
              refine e x ?_
              rw [HX.out]
              have : t.getD k 0 = t[k] := by simp [List.getD, hlt]
              rw [this]; exact List.getElem_mem _
            obtain ⟨rfl, rfl⟩ : rv = 0 ∧ rb = false := Prod.mk.inj (by rw [HR2.out, hall]; rfl)
            have hnd : x.toNat < 48 ∨ 57 < x.toNat := by simp [isDg] at hd; omega
            clear hd hall
            by_cases hlo : x.toNat < 48
            · have e1 : decide ((x.toNat : Int) < 48) = true := by simp; omega
              go_wp2
              exact bodyPost_ret (v := .tuple #[.int .i64 0, .bool false]) (by simp [results, Tryz.results70, go_sem]) rfl ⟨rfl, rfl⟩
            · have e1 : decide ((x.toNat : Int) < 48) = false := by simp; omega
              have e2 : decide ((57 : Int) < (x.toNat : Int)) = true := by simp; omega
              go_wp2
              exact bodyPost_ret (v := .tuple #[.int .i64 0, .bool false]) (by simp [results, Tryz.results70, go_sem]) rfl ⟨rfl, rfl⟩
        · have hkt : t.take k = t := List.take_of_length_le (by omega)
          have hv := HV.out
          rw [hkt] at hv
          obtain ⟨rfl, rfl⟩ : rv = (z : Int) ∧ rb = true := Prod.mk.inj (by rw [HR2.out, hv.2, if_pos rfl, hv.1])
          clear hv
          go_wp2
          exact bodyPost_ret (v := .tuple #[.int .i64 z, .bool true]) (by simp [results, Tryz.results70, go_sem]) rfl ⟨rfl, rfl⟩
  exact key _ rfl (fun hq => by
    have h4 : (1 : Int) < (t.length : Int) := of_decide_eq_true hq
    have h5 : ¬ x0 = 48 := fun e => h3 ⟨by omega, e⟩
    refine Bool.eq_false_iff.2 fun e => h5 ?_
    have e2 : (x0.toNat : Int) = 48 := eq_of_beq e
    exact UInt8.toNat_inj.1 (show x0.toNat = 48 by omega))

end Go.Proofs.YtajkihmefpbofaaGreatDoor

namespace Go.Proofs.YtajkihmefpbofaaGreatDoor
open Go.RowKit Go.Maps Go.WideMaps

theorem IAt.take {w : World} {a : Option Addr} {n k : Nat} {l : List Int} (h : IAt w a n l) (hk : k ≤ n) : IAt w a k (l.take k) := by
  obtain ⟨hn, h⟩ := h
  refine ⟨by simp; omega, ?_⟩
  rcases h with h | ⟨b, off, rfl, hb, hc⟩
  · exact .inl (by omega)
  · refine .inr ⟨b, off, rfl, hb, fun j hj => ?_⟩
    rw [hc j (by omega)]
    simp [List.getD, hj]
end Go.Proofs.YtajkihmefpbofaaGreatDoor

namespace Go.Proofs.YtajkihmefpbofaaGreatDoor
open Go.RowKit Go.Shelf Go.Maps Go.WideMaps

theorem dgt_toNat {u : Nat} (h : u < 10) : (UInt8.ofNat (48 + u)).toNat = 48 + u := by
  simp [UInt8.toNat_ofNat']; omega
theorem dgt_is {u : Nat} (h : u < 10) : isDg (UInt8.ofNat (48 + u)) = true := by
  unfold isDg; rw [dgt_toNat h]; simp; omega
theorem digs_all (u : Nat) : (Lib.decDigits u).all isDg = true := by
  induction u using Nat.strongRecOn with
  | _ u ih =>
    rw [Lib.decDigits]
    by_cases h : u < 10
    · rw [dif_pos h, List.all_cons, dgt_is h]; rfl
    · rw [dif_neg h, List.all_append, ih (u / 10) (by omega)]
      rw [List.all_cons, dgt_is (show u % 10 < 10 by omega)]; rfl
theorem digs_val (u : Nat) : valD (Lib.decDigits u) = u := by
  induction u using Nat.strongRecOn with
  | _ u ih =>
    rw [Lib.decDigits]
    by_cases h : u < 10
    · rw [dif_pos h]
      have := dgt_toNat h
      show 0 * 10 + ((UInt8.ofNat (48 + u)).toNat - 48) = u
      rw [this]; omega
    · rw [dif_neg h, valD_snoc, ih (u / 10) (by omega), dgt_toNat (show u % 10 < 10 by omega)]
      omega
theorem digs_ne (u : Nat) : Lib.decDigits u ≠ [] := by
  rw [Lib.decDigits]
  by_cases h : u < 10
  · rw [dif_pos h]; simp
  · rw [dif_neg h]; simp
theorem getD_append_left {l r : List UInt8} (h : l ≠ []) : (l ++ r).getD 0 0 = l.getD 0 0 := by
  cases l with
  | nil => exact absurd rfl h
  | cons a t => rfl
theorem digs_head (u : Nat) (h : 1 ≤ u) : (Lib.decDigits u).getD 0 0 ≠ 48 := by
  induction u using Nat.strongRecOn with
  | _ u ih =>
    rw [Lib.decDigits]
    by_cases h1 : u < 10
    · rw [dif_pos h1]
      intro e
      have e2 : UInt8.ofNat (48 + u) = 48 := e
      have := congrArg UInt8.toNat e2
      rw [dgt_toNat h1] at this
      simp at this
      omega
    · rw [dif_neg h1, getD_append_left (digs_ne _)]
      exact ih (u / 10) (by omega) (by omega)
theorem digs_short {u : Nat} : ∀ {n : Nat}, u < 10 ^ n → 1 ≤ n → (Lib.decDigits u).length ≤ n := by
  induction u using Nat.strongRecOn with
  | _ u ih =>
    intro n h hn
    rw [Lib.decDigits]
    by_cases h1 : u < 10
    · rw [dif_pos h1]; simpa using hn
    · rw [dif_neg h1, List.length_append, List.length_singleton]
      obtain ⟨m, rfl⟩ : ∃ m, n = m + 1 := ⟨n - 1, by omega⟩
      rw [Nat.pow_succ] at h
      have hm : 1 ≤ m := by
        rcases m with _ | m
        · simp at h; omega
        · omega
      have := ih (u / 10) (by omega) (n := m) (by omega) hm
      omega
theorem digs_one {u : Nat} (h : 1 < (Lib.decDigits u).length) : 10 ≤ u := by
  by_cases h1 : u < 10
  · rw [Lib.decDigits, dif_pos h1] at h; simp at h
  · omega
theorem numR_dec {v : Int} {n : Nat} (h0 : 0 ≤ v) (h1 : v < ((10 ^ n : Nat) : Int)) (hn : 1 ≤ n) : numR (dec v) n = (v, true) := by
  obtain ⟨u, rfl⟩ := Int.eq_ofNat_of_zero_le h0
  have hu : u < 10 ^ n := by exact_mod_cast h1
  have hs := digs_short hu hn
  have hne := digs_ne u
  have hl : 0 < (Lib.decDigits u).length := List.length_pos_iff.2 hne
  show numR (Lib.decDigits u) n = _
  unfold numR
  rw [if_neg, if_pos (digs_all u), digs_val]
  rintro (h | h | ⟨h, h'⟩)
  · omega
  · omega
  · exact digs_head u (by have := digs_one h; omega) h'
theorem valD_pos {t : List UInt8} (h : t.all isDg = true) (hne : t ≠ []) (hh : t.getD 0 0 ≠ 48) : 1 ≤ valD t := by
  revert h hne hh
  refine snoc_ind (P := fun t => t.all isDg = true → t ≠ [] → t.getD 0 0 ≠ 48 → 1 ≤ valD t) (fun _ h _ => absurd rfl h) (fun t b ih h _ hh => ?_) t
  rw [List.all_append] at h
  simp only [Bool.and_eq_true, List.all_cons, List.all_nil, Bool.and_true] at h
  rw [valD_snoc]
  by_cases e : t = []
  · subst e
    have hb := dg_le h.2
    have : b.toNat ≠ 48 := fun e => hh (UInt8.toNat_inj.1 (by simpa using e))
    omega
  · rw [getD_append_left e] at hh
    have := ih h.1 e hh
    omega
theorem digs_of {t : List UInt8} (h : t.all isDg = true) (hne : t ≠ []) (hh : 1 < t.length → t.getD 0 0 ≠ 48) : Lib.decDigits (valD t) = t := by
  revert h hne hh
  refine snoc_ind (P := fun t => t.all isDg = true → t ≠ [] → (1 < t.length → t.getD 0 0 ≠ 48) → Lib.decDigits (valD t) = t) (fun _ h _ => absurd rfl h) (fun t b ih h _ hh => ?_) t
  rw [List.all_append] at h
  simp only [Bool.and_eq_true, List.all_cons, List.all_nil, Bool.and_true] at h
  have hb := dg_le h.2
  have eb : UInt8.ofNat (48 + (b.toNat - 48)) = b := by
    rw [show 48 + (b.toNat - 48) = b.toNat by omega]
    simp
  rw [valD_snoc]
  by_cases e : t = []
  · subst e
    have e0 : valD [] * 10 + (b.toNat - 48) = b.toNat - 48 := by simp [valD]
    rw [e0, Lib.decDigits, dif_pos (by omega), eb]
    rfl
  · have hl : 0 < t.length := List.length_pos_iff.2 e
    have h2 := hh (by rw [List.length_append, List.length_singleton]; omega)
    rw [getD_append_left e] at h2
    have h3 := valD_pos h.1 e h2
    rw [Lib.decDigits, dif_neg (by omega), show (valD t * 10 + (b.toNat - 48)) / 10 = valD t by omega, show (valD t * 10 + (b.toNat - 48)) % 10 = b.toNat - 48 by omega, ih h.1 e (fun _ => h2), eb]
theorem numR_sound {t : List UInt8} {n : Nat} (h : (numR t n).2 = true) : dec (numR t n).1 = t ∧ 0 ≤ (numR t n).1 := by
  unfold numR at h ⊢
  by_cases h1 : t.length < 1 ∨ n < t.length ∨ (1 < t.length ∧ t.getD 0 0 = 48)
  · rw [if_pos h1] at h; cases h
  · rw [if_neg h1] at h ⊢
    by_cases h2 : t.all isDg = true
    · rw [if_pos h2]
      refine ⟨?_, by simp⟩
      show Lib.decDigits ((valD t : Int)).toNat = t
      rw [Int.toNat_natCast]
      exact digs_of h2 (fun e => h1 (.inl (by rw [e]; simp))) (fun hl e => h1 (.inr (.inr ⟨hl, e⟩)))
    · rw [if_neg h2] at h; cases h
theorem join_cut (c : UInt8) (t : List UInt8) : Lib.join (cutL c t) [c] = t := by
  unfold Lib.join
  induction t with
  | nil => simp [cutL, List.intercalate]
  | cons b t ih =>
    unfold cutL
    cases e : cutL c t with
    | nil => exact absurd e (cutL_ne c t)
    | cons x r =>
      rw [e] at ih
      by_cases h : b = c
      · rw [if_pos h]
        have : List.intercalate [c] ([] :: x :: r) = c :: List.intercalate [c] (x :: r) := by simp [List.intercalate, List.intersperse]
        rw [this, ih, h]
      · rw [if_neg h]
        have : List.intercalate [c] ((b :: x) :: r) = b :: List.intercalate [c] (x :: r) := by
          cases r <;> simp [List.intercalate, List.intersperse]
        show List.intercalate [c] ((b :: x) :: r) = _
        rw [this, ih]

theorem dec_dg (v : Int) : ∀ b ∈ dec v, 48 ≤ b.toNat ∧ b.toNat ≤ 57 := fun b hb => dg_le (List.all_eq_true.1 (digs_all v.toNat) b hb)
theorem not_dec {c : UInt8} (hc : c.toNat < 48) (v : Int) : c ∉ dec v := fun h => by have := dec_dg v c h; omega
end Go.Proofs.YtajkihmefpbofaaGreatDoor

namespace Go.Proofs.YtajkihmefpbofaaGreatDoor
open Go.RowKit Go.Shelf Go.Maps Go.WideMaps

theorem cut_tailT (k : Int) (l : List Int) : cutL 44 (dec k ++ tailT l) = dec k :: l.map dec := by
  induction l generalizing k with
  | nil => rw [tailT, List.append_nil, cutL_one (not_dec (by decide) k)]; rfl
  | cons a t ih => rw [tailT, cutL_at (not_dec (by decide) k), ih a]; rfl
theorem cut_keysT {l : List Int} (h : l ≠ []) : cutL 44 (keysT l) = l.map dec := by
  cases l with
  | nil => exact absurd rfl h
  | cons k t => exact cut_tailT k t
theorem tailT_mem {l : List Int} {b : UInt8} (h : b ∈ tailT l) : b = 44 ∨ 48 ≤ b.toNat := by
  induction l with
  | nil => cases h
  | cons k t ih =>
    rw [tailT] at h
    rcases List.mem_cons.1 h with rfl | h
    · exact .inl rfl
    · rcases List.mem_append.1 h with h | h
      · exact .inr (dec_dg k b h).1
      · exact ih h
theorem keysT_no {l : List Int} : (32 : UInt8) ∉ keysT l := by
  cases l with
  | nil => simp [keysT]
  | cons k t =>
    intro h
    rw [keysT] at h
    rcases List.mem_append.1 h with h | h
    · have := (dec_dg k 32 h).1; simp at this
    · rcases tailT_mem h with h | h
      · cases h
      · simp at h
theorem join_keysL (l : List Int) : Lib.join (l.map dec) [44] = keysT l := by
  by_cases h : l = []
  · subst h; rfl
  · rw [← cut_keysT h, join_cut]

/-- What the specification reads of keys, and of a rule. -/
def kysP (s : List UInt8) : List Int × Bool := ((cutL 44 s).map fun x => (numR x 3).1, (cutL 44 s).all fun x => (numR x 3).2)
def parU (t : List UInt8) : (List Int × Int × Int) × Bool :=
  match cutL 32 t with
  | [a, b, c] =>
    if b = [111, 102] then (((kysP c).1, (numR a 1).1, 0), (numR a 1).2 && (kysP c).2 && decide (ruleR (kysP c).1 (numR a 1).1 0 = 0)) else (([], 0, 0), false)
  | [a, b, c, d, e] =>
    if b = [111, 102] then (((kysP c).1, (numR a 1).1, (numR e 3).1), (numR a 1).2 && (kysP c).2 && ((numR e 3).2 && decide (d = [97, 102, 116, 101, 114]) && decide (0 < (numR e 3).1)) && decide (ruleR (kysP c).1 (numR a 1).1 (numR e 3).1 = 0)) else (([], 0, 0), false)
  | _ => (([], 0, 0), false)
theorem kysP_sound {s : List UInt8} (h : (kysP s).2 = true) : keysT (kysP s).1 = s := by
  unfold kysP at h ⊢
  simp only at h ⊢
  rw [← join_keysL, List.map_map]
  have : (cutL 44 s).map (dec ∘ fun x => (numR x 3).1) = cutL 44 s := by
    conv => rhs; rw [← List.map_id (cutL 44 s)]
    apply List.map_congr_left
    intro x hx
    exact (numR_sound (List.all_eq_true.1 h x hx)).1
  rw [this, join_cut]
theorem kysP_dec {l : List Int} (hne : l ≠ []) (h : ∀ k ∈ l, 1 ≤ k ∧ k ≤ 999) : kysP (keysT l) = (l, true) := by
  unfold kysP
  rw [cut_keysT hne]
  have h1 : ∀ k ∈ l, numR (dec k) 3 = (k, true) := fun k hk => numR_dec (by have := h k hk; omega) (by have := h k hk; simp; omega) (by omega)
  refine Prod.ext ?_ ?_
  · rw [List.map_map]
    conv => rhs; rw [← List.map_id l]
    apply List.map_congr_left
    intro k hk
    show (numR (dec k) 3).1 = k
    rw [h1 k hk]
  · rw [List.all_map]
    refine List.all_eq_true.2 fun k hk => ?_
    show (numR (dec k) 3).2 = true
    rw [h1 k hk]
theorem cut_rtx0 (l : List Int) (x : Int) : cutL 32 (rtxR l x 0) = [dec x, [111, 102], keysT l] := by
  have e : rtxR l x 0 = dec x ++ 32 :: ([111, 102] ++ 32 :: keysT l) := by simp [rtxR, aftT]
  rw [e, cutL_at (not_dec (by decide) x), cutL_at (by decide), cutL_one keysT_no]
theorem cut_rtxY (l : List Int) (x : Int) {y : Int} (hy : y ≠ 0) : cutL 32 (rtxR l x y) = [dec x, [111, 102], keysT l, [97, 102, 116, 101, 114], dec y] := by
  have e : rtxR l x y = dec x ++ 32 :: ([111, 102] ++ 32 :: (keysT l ++ 32 :: ([97, 102, 116, 101, 114] ++ 32 :: dec y))) := by simp [rtxR, aftT, hy]
  rw [e, cutL_at (not_dec (by decide) x), cutL_at (by decide), cutL_at keysT_no, cutL_at (by decide), cutL_one (not_dec (by decide) y)]
/-- A right rule is read back from its text. -/
theorem parU_rtx {l : List Int} {x y : Int} (h : ruleR l x y = 0) : parU (rtxR l x y) = ((l, x, y), true) := by
  obtain ⟨⟨h1, h2⟩, ⟨h3, h4⟩, ⟨h5, h6⟩, h7⟩ := ruleR_zero rfl h
  have hne : l ≠ [] := fun e => by rw [e] at h1; simp at h1
  have hk : ∀ k ∈ l, 1 ≤ k ∧ k ≤ 999 := h7
  unfold parU
  by_cases hy : y = 0
  · subst hy
    rw [cut_rtx0]
    simp only [if_true]
    rw [numR_dec (by omega) (by simp; omega) (by omega), kysP_dec hne hk]
    simp [h]
  · rw [cut_rtxY l x hy]
    simp only [if_true]
    rw [numR_dec (by omega) (by simp; omega) (by omega), kysP_dec hne hk, numR_dec (v := y) (by omega) (by simp; omega) (by omega)]
    simp [h]
    omega
/-- What is read is right, and the text is just that of it. -/
theorem parU_sound {t : List UInt8} (h : (parU t).2 = true) : ruleR (parU t).1.1 (parU t).1.2.1 (parU t).1.2.2 = 0 ∧ rtxR (parU t).1.1 (parU t).1.2.1 (parU t).1.2.2 = t := by
  have hj := join_cut 32 t
  unfold parU at h ⊢
  split at h
  · rename_i a b c hw
    rw [hw] at hj
    by_cases h0 : b = [111, 102]
    · rw [if_pos h0] at h
      simp only [if_pos h0]
      simp only [Bool.and_eq_true, decide_eq_true_eq] at h
      obtain ⟨⟨g1, g2⟩, g3⟩ := h
      refine ⟨g3, ?_⟩
      rw [← hj, h0]
      unfold rtxR aftT
      rw [(numR_sound g1).1, kysP_sound g2, if_pos rfl]
      simp [Lib.join, List.intercalate, List.intersperse]
    · rw [if_neg h0] at h; cases h
  · rename_i a b c d e hw
    rw [hw] at hj
    by_cases h0 : b = [111, 102]
    · rw [if_pos h0] at h
      simp only [if_pos h0]
      simp only [Bool.and_eq_true, decide_eq_true_eq] at h
      obtain ⟨⟨⟨g1, g2⟩, ⟨g4, g5⟩, g6⟩, g3⟩ := h
      refine ⟨g3, ?_⟩
      rw [← hj, h0, g5]
      unfold rtxR aftT
      rw [(numR_sound g1).1, kysP_sound g2, if_neg (by omega), (numR_sound g4).1]
      simp [Lib.join, List.intercalate, List.intersperse]
    · rw [if_neg h0] at h; cases h
  · cases h
/-- What ParseRule comes to. -/
def prR (t : List UInt8) : Int × (List Int × Int × Int) := if (parU t).2 = true then (0, (parU t).1) else (5, ([], 0, 0))

/-- What the program reads first, loosely. -/
def looseN (s : List UInt8) : Int := match Lib.parseIntB 64 s with
  | .ok v => v
  | _ => 0
def looseR (t : List UInt8) : List Int × Int × Int :=
  (((cutL 44 (Lib.cut (Lib.cut t [32, 111, 102, 32]).2.1 [32, 97, 102, 116, 101, 114, 32]).1).map looseN), looseN (Lib.cut t [32, 111, 102, 32]).1, looseN (Lib.cut (Lib.cut t [32, 111, 102, 32]).2.1 [32, 97, 102, 116, 101, 114, 32]).2.1)

theorem index_at {c : UInt8} {tl r : List UInt8} : ∀ {p : List UInt8}, c ∉ p → Lib.index (p ++ (c :: tl) ++ r) (c :: tl) = p.length
  | [], _ => by
    show Lib.index (c :: (tl ++ r)) (c :: tl) = 0
    unfold Lib.index
    rw [if_pos]
    simp [List.isPrefixOf]
  | b :: t, h => by
    have h1 : ¬ c = b := fun e => h (by rw [e]; exact List.mem_cons_self ..)
    have ih := index_at (tl := tl) (r := r) (p := t) (fun e => h (List.mem_cons_of_mem _ e))
    show Lib.index (b :: (t ++ (c :: tl) ++ r)) (c :: tl) = _
    unfold Lib.index
    rw [if_neg (by simp [List.isPrefixOf, h1]), ih, if_neg (by simp <;> omega)]
    simp
theorem index_no {c : UInt8} {tl : List UInt8} : ∀ {p : List UInt8}, c ∉ p → Lib.index p (c :: tl) = -1
  | [], _ => rfl
  | b :: t, h => by
    have h1 : ¬ c = b := fun e => h (by rw [e]; exact List.mem_cons_self ..)
    have ih := index_no (tl := tl) (p := t) (fun e => h (List.mem_cons_of_mem _ e))
    unfold Lib.index
    rw [if_neg (by simp [List.isPrefixOf, h1]), ih, if_pos (by decide)]
theorem cut_hit {c : UInt8} {tl p r : List UInt8} (h : c ∉ p) : Lib.cut (p ++ (c :: tl) ++ r) (c :: tl) = (p, r, true) := by
  unfold Lib.cut
  rw [index_at h, if_pos (by omega)]
  simp only [Int.toNat_natCast]
  rw [List.append_assoc, List.take_left]
  refine Prod.ext rfl (Prod.ext ?_ rfl)
  show List.drop (p.length + (c :: tl).length) (p ++ ((c :: tl) ++ r)) = r
  rw [← List.append_assoc, ← List.length_append, List.drop_left]
theorem cut_miss {c : UInt8} {tl p : List UInt8} (h : c ∉ p) : Lib.cut p (c :: tl) = (p, [], false) := by
  unfold Lib.cut
  rw [index_no h, if_neg (by decide)]
/-- Digits are read, whatever is ahead of them, as long as the number is not great. -/
theorem fold_ge : ∀ (ds : List UInt8) (acc : Nat), acc ≤ ds.foldl (fun v b => v * 10 + (b.toNat - 48)) acc
  | [], acc => Nat.le_refl _
  | b :: t, acc => by
    have := fold_ge t (acc * 10 + (b.toNat - 48))
    show acc ≤ t.foldl _ (acc * 10 + (b.toNat - 48))
    omega
theorem pu_digs : ∀ (ds : List UInt8) (acc : Nat), ds.all isDg = true → ds.foldl (fun v b => v * 10 + (b.toNat - 48)) acc < 1000000000000000000 → Lib.parseUintM (2 ^ 64 - 1) acc ds = .ok (ds.foldl (fun v b => v * 10 + (b.toNat - 48)) acc)
  | [], acc, _, _ => rfl
  | b :: t, acc, h, hl => by
    rw [List.all_cons, Bool.and_eq_true] at h
    have hb := dg_le h.1
    have h1 := fold_ge t (acc * 10 + (b.toNat - 48))
    have h2 : t.foldl (fun v b => v * 10 + (b.toNat - 48)) (acc * 10 + (b.toNat - 48)) < 1000000000000000000 := hl
    unfold Lib.parseUintM
    rw [if_pos hb, if_neg (by omega), if_neg (by omega)]
    exact pu_digs t _ h.2 h2
theorem looseN_dec {v : Int} (h0 : 0 ≤ v) (h1 : v < 1000000000000000000) : looseN (dec v) = v := by
  have ha := digs_all v.toNat
  have hv := digs_val v.toNat
  unfold looseN dec
  cases e : Lib.decDigits v.toNat with
  | nil => exact absurd e (digs_ne _)
  | cons c r =>
    rw [e] at ha hv
    have hc := dg_le (List.all_eq_true.1 ha c (List.mem_cons_self ..))
    unfold valD at hv
    have hp := pu_digs (c :: r) 0 ha (by rw [hv]; omega)
    rw [hv] at hp
    have h3 : ¬ (c.toNat = 43 ∨ c.toNat = 45) := by omega
    have h4 : ¬ c.toNat = 45 := by omega
    unfold Lib.parseIntB
    simp only [if_neg h3]
    unfold Lib.parseUintB
    rw [if_neg (by simp), hp]
    simp only
    rw [if_neg (by simp; omega), if_neg (by simp [h4])]
    simp [h4]
    omega
theorem looseR_rtx {l : List Int} {x y : Int} (h : ruleR l x y = 0) : looseR (rtxR l x y) = (l, x, y) := by
  obtain ⟨⟨h1, h2⟩, ⟨h3, h4⟩, ⟨h5, h6⟩, h7⟩ := ruleR_zero rfl h
  have hne : l ≠ [] := fun e => by rw [e] at h1; simp at h1
  have hk : ∀ k ∈ l, 1 ≤ k ∧ k ≤ 999 := h7
  have hm : (l.map dec).map looseN = l := by
    rw [List.map_map]
    conv => rhs; rw [← List.map_id l]
    apply List.map_congr_left
    intro k hkk
    have := hk k hkk
    exact looseN_dec (by omega) (by omega)
  have e : rtxR l x y = dec x ++ (32 :: [111, 102, 32]) ++ (keysT l ++ aftT y) := by simp [rtxR]
  unfold looseR
  rw [e, cut_hit (not_dec (by decide) x)]
  simp only
  by_cases hy : y = 0
  · subst hy
    have e2 : aftT 0 = [] := rfl
    rw [e2, List.append_nil, cut_miss keysT_no]
    simp only
    rw [cut_keysT hne, hm, looseN_dec (by omega) (by omega)]
    rfl
  · have e2 : keysT l ++ aftT y = keysT l ++ (32 :: [97, 102, 116, 101, 114, 32]) ++ dec y := by unfold aftT; rw [if_neg hy]; simp
    rw [e2, cut_hit keysT_no]
    simp only
    rw [cut_keysT hne, hm, looseN_dec (v := x) (by omega) (by omega), looseN_dec (v := y) (by omega) (by omega)]
/-- The program reads what the specification does. -/
theorem loose_same (t : List UInt8) : (if ruleR (looseR t).1 (looseR t).2.1 (looseR t).2.2 = 0 ∧ rtxR (looseR t).1 (looseR t).2.1 (looseR t).2.2 = t then (0, looseR t) else (5, ([], 0, 0))) = prR t := by
  unfold prR
  cases hp : (parU t).2
  · rw [if_neg (show ¬ false = true by simp)]
    rw [if_neg]
    rintro ⟨h1, h2⟩
    have := parU_rtx h1
    rw [h2] at this
    rw [this] at hp
    cases hp
  · rw [if_pos rfl]
    obtain ⟨h1, h2⟩ := parU_sound hp
    have h3 := looseR_rtx h1
    rw [h2] at h3
    rw [if_pos (by rw [h3]; exact ⟨h1, h2⟩), h3]

end Go.Proofs.YtajkihmefpbofaaGreatDoor

namespace Go.Proofs.YtajkihmefpbofaaGreatDoor
open Go.RowKit Go.Maps Go.WideMaps

def sameR (l l' : List Int) (x x' y y' : Int) : Bool := decide (x = x') && (decide (y = y') && decide (l = l'))
theorem take_same {l l' : List Int} {n k : Nat} (hn : l.length = n) (hm : l'.length = n) (hlt : k < n) (h : l.take k = l'.take k) {s : Int} (hs : s = l.getD k 0) (ht : s = l'.getD k 0) : Hid (l.take (k + 1) = l'.take (k + 1)) := by
  show _ = _
  have e1 : l[k]? = some s := by rw [hs]; simp [List.getD, show k < l.length by omega]
  have e2 : l'[k]? = some s := by rw [ht]; simp [List.getD, show k < l'.length by omega]
  rw [List.take_add_one, List.take_add_one, h, e1, e2]
theorem not_same {l l' : List Int} {k : Nat} {s t : Int} (hs : s = l.getD k 0) (ht : t = l'.getD k 0) (h : ¬ s = t) : ¬ l = l' := by
  rintro rfl; exact h (hs.trans ht.symm)

set_option maxHeartbeats 400000 in
theorem sEqual_any (a b : Option Addr) (n m c1 c2 : Nat) (l l' : List Int) (w : World) (hl : n ≤ 1048576) (hl2 : m ≤ 1048576) (ha : IAt w a n l) (hb : IAt w b m l') :
    Calls Tryz.prog 42 #[.slice a n c1, .slice b m c2] w fun e w' => e = .returned (.bool (decide (l = l'))) ∧ Below w.heap.size w w' := by
  obtain ⟨r, hr⟩ : ∃ r, r = decide (l = l') := ⟨_, rfl⟩
  rw [← hr]
  have HR : Hid (r = decide (l = l')) := hr
  have HA : Hid (IAt w a n l) := ha
  have HB : Hid (IAt w b m l') := hb
  clear hr ha hb
  by_cases hnm : n = m
  · subst hnm
    go_enter Tryz.func42, Tryz.ntmps42
    go_wp2
    go_loopw [13] (fun i wr => ∃ k : Nat, k ≤ n ∧ i = .int .i64 k ∧ Below w.heap.size w wr ∧ Hid (l.take k = l'.take k)) (fun i _ => n - (intOf i).toNat)
    case atStart => exact ⟨0, Nat.zero_le _, rfl, Below.refl _ _, by show _ = _; simp⟩
    case round =>
      obtain ⟨k, hk, rfl, hbel, HT⟩ := hrel
      by_cases hlt : k < n
      · rcases HA.out.2 with h0 | ⟨b0, o0, e0, l0, d0⟩
        · omega
        subst e0
        rcases HB.out.2 with h0 | ⟨b1, o1, e1, l1, d1⟩
        · omega
        subst e1
        obtain ⟨s, hs⟩ : ∃ s, s = l.getD k 0 := ⟨_, rfl⟩
        obtain ⟨t, ht⟩ : ∃ t, t = l'.getD k 0 := ⟨_, rfl⟩
        have x0 := (hbel.cell (p := ⟨b0, o0 + k, none⟩) l0).trans (d0 k hlt)
        have x1 := (hbel.cell (p := ⟨b1, o1 + k, none⟩) l1).trans (d1 k hlt)
        rw [← hs] at x0
        rw [← ht] at x1
        have HS : Hid (s = l.getD k 0) := hs
        have HTT : Hid (t = l'.getD k 0) := ht
        clear hs ht d0 d1
        have hki : (k : Int) < (n : Int) := by omega
        by_cases hst : s = t
        · subst hst
          go_wp2
          go_quiet (fail)
          go_wp2
          go_roundw
          case rel => exact ⟨k + 1, by omega, by go_num, hbel.trans (Joins.below_draws _ _ _), take_same HA.out.1 HB.out.1 hlt HT.out HS.out HTT.out⟩
          case measure => simp [intOf]; omega
        · go_wp2
          go_quiet (fail)
          go_wp2
          go_ret
          obtain rfl : r = false := by rw [HR.out]; exact decide_eq_false (not_same HS.out HTT.out hst)
          exact ⟨rfl, hbel.trans (Joins.below_draws _ _ _)⟩
      · go_wp2
        go_ret
        have e := HT.out
        rw [List.take_of_length_le (by rw [HA.out.1]; omega), List.take_of_length_le (by rw [HB.out.1]; omega)] at e
        obtain rfl : r = true := by rw [HR.out]; exact decide_eq_true e
        exact ⟨rfl, hbel⟩
  · have hni : (n : Int) ≠ (m : Int) := by omega
    go_enter Tryz.func42, Tryz.ntmps42
    go_wp2
    go_ret
    obtain rfl : r = false := by rw [HR.out]; exact decide_eq_false (by rintro rfl; exact hnm (HA.out.1.symm.trans HB.out.1))
    exact ⟨rfl, Below.refl _ _⟩

end Go.Proofs.YtajkihmefpbofaaGreatDoor

namespace Go.Proofs.YtajkihmefpbofaaGreatDoor
open Go.RowKit Go.Maps Go.WideMaps

end Go.Proofs.YtajkihmefpbofaaGreatDoor

namespace Go.Proofs.YtajkihmefpbofaaGreatDoor
open Go.RowKit Go.Maps Go.WideMaps

set_option maxHeartbeats 400000 in
theorem iSameRules_any (a b : Option Addr) (n m c1 c2 : Nat) (l l' : List Int) (x x' y y' : Int) (w : World) (hl : n ≤ 1048576) (hl2 : m ≤ 1048576) (ha : IAt w a n l) (hb : IAt w b m l') :
    Calls Tryz.prog 14 #[.agg #[.slice a n c1, .int .i64 x, .int .i64 y], .agg #[.slice b m c2, .int .i64 x', .int .i64 y']] w fun e w' => e = .returned (.bool (sameR l l' x x' y y')) ∧ Below w.heap.size w w' := by
  have hbx : Below w.heap.size w ((w.alloc (.cells #[.slice a n c1, .int .i64 x, .int .i64 y] 30)).alloc (.cells #[.slice b m c2, .int .i64 x', .int .i64 y'] 30)) := below_box2 _ _
  have hS := sEqual_any a b n m c1 c2 l l' _ hl hl2 (ha.below hbx (Nat.le_refl _)) (hb.below hbx (Nat.le_refl _))
  have HBX : Hid (Below w.heap.size w ((w.alloc (.cells #[.slice a n c1, .int .i64 x, .int .i64 y] 30)).alloc (.cells #[.slice b m c2, .int .i64 x', .int .i64 y'] 30))) := hbx
  have T0 : Hid _ := block_at2 (w := w) (o := .cells #[.slice a n c1, .int .i64 x, .int .i64 y] 30) (o' := .cells #[.slice b m c2, .int .i64 x', .int .i64 y'] 30)
  have T1 : Hid _ := heap_alloc_at (w.alloc (.cells #[.slice a n c1, .int .i64 x, .int .i64 y] 30)) (.cells #[.slice b m c2, .int .i64 x', .int .i64 y'] 30) (w.heap.size + 1) (by simp)
  clear hbx ha hb
  obtain ⟨q, hq⟩ : ∃ q, q = decide (l = l') := ⟨_, rfl⟩
  have hr : sameR l l' x x' y y' = (decide (x = x') && (decide (y = y') && q)) := by rw [hq]; rfl
  rw [← hq] at hS
  rw [hr]
  clear hr hq
  cases q
  · have e0 : (decide (x = x') && (decide (y = y') && false)) = false := by simp
    rw [e0]
    clear e0
    go_enter Tryz.func14, Tryz.ntmps14
    go_wp2_with (go_at_call 42; refine hS.mono ?_; rintro e w2 ⟨rfl, hb2⟩; obtain ⟨⟨p0, p1, p2⟩, _, HP⟩ := res3 T0.out hb2 (by simp; omega); obtain ⟨⟨q0, q1, q2⟩, _, HQ⟩ := res3 T1.out hb2 (by simp))
    go_ret
    exact ⟨rfl, HBX.out.trans (hb2.mono (by simp; omega))⟩
  by_cases hx : x = x'
  · subst hx
    by_cases hy : y = y'
    · subst hy
      have e0 : (decide (x = x) && (decide (y = y) && true)) = true := by simp
      rw [e0]
      clear e0
      go_enter Tryz.func14, Tryz.ntmps14
      go_wp2_with (go_at_call 42; refine hS.mono ?_; rintro e w2 ⟨rfl, hb2⟩; obtain ⟨⟨p0, p1, p2⟩, _, HP⟩ := res3 T0.out hb2 (by simp; omega); obtain ⟨⟨q0, q1, q2⟩, _, HQ⟩ := res3 T1.out hb2 (by simp))
      go_ret
      exact ⟨rfl, HBX.out.trans (hb2.mono (by simp; omega))⟩
    · have e0 : (decide (x = x) && (decide (y = y') && true)) = false := by simp [hy]
      have hyb : (y == y') = false := by simpa using hy
      rw [e0]
      clear e0
      go_enter Tryz.func14, Tryz.ntmps14
      go_wp2_with (go_at_call 42; refine hS.mono ?_; rintro e w2 ⟨rfl, hb2⟩; obtain ⟨⟨p0, p1, p2⟩, _, HP⟩ := res3 T0.out hb2 (by simp; omega); obtain ⟨⟨q0, q1, q2⟩, _, HQ⟩ := res3 T1.out hb2 (by simp))
      all_goals go_ret
      all_goals exact ⟨by simp [*], HBX.out.trans (hb2.mono (by simp; omega))⟩
  · have e0 : (decide (x = x') && (decide (y = y') && true)) = false := by simp [hx]
    have hxb : (x == x') = false := by simpa using hx
    rw [e0]
    clear e0
    go_enter Tryz.func14, Tryz.ntmps14
    go_wp2_with (go_at_call 42; refine hS.mono ?_; rintro e w2 ⟨rfl, hb2⟩; obtain ⟨⟨p0, p1, p2⟩, _, HP⟩ := res3 T0.out hb2 (by simp; omega); obtain ⟨⟨q0, q1, q2⟩, _, HQ⟩ := res3 T1.out hb2 (by simp))
    all_goals go_ret
    all_goals exact ⟨by simp [*], HBX.out.trans (hb2.mono (by simp; omega))⟩

end Go.Proofs.YtajkihmefpbofaaGreatDoor

namespace Go.Proofs.YtajkihmefpbofaaGreatDoor
open Go.RowKit

theorem met_parts {ss : List ByteArray} {gs : List (Int × Int)} {l : List Int} {x y id h : Int} (H : metR ss gs l x y id h = 0) :
    flt ss gs = 0 ∧ ruleR l x y = 0 ∧ inB id 1 ss.length = true ∧ inB h 0 999 = true ∧ y ≤ h ∧ x ≤ (cntK l gs id : Int) := by
  unfold metR at H
  by_cases h1 : flt ss gs ≠ 0
  · rw [if_pos h1] at H; exact absurd H h1
  rw [if_neg h1] at H
  by_cases h2 : ruleR l x y ≠ 0
  · rw [if_pos h2] at H; exact absurd H h2
  rw [if_neg h2] at H
  by_cases h3 : inB id 1 ss.length = false ∨ inB h 0 999 = false
  · rw [if_pos h3] at H; cases H
  rw [if_neg h3] at H
  by_cases h4 : h < y
  · rw [if_pos h4] at H; cases H
  rw [if_neg h4] at H
  by_cases h5 : (cntK l gs id : Int) < x
  · rw [if_pos h5] at H; cases H
  refine ⟨by simpa using h1, by simpa using h2, ?_, ?_, by omega, by omega⟩
  · cases e : inB id 1 ss.length
    · exact absurd (.inl e) h3
    · rfl
  · cases e : inB h 0 999
    · exact absurd (.inr e) h3
    · rfl
theorem met_of {ss : List ByteArray} {gs : List (Int × Int)} {l : List Int} {x y id h : Int} (h1 : flt ss gs = 0) (h2 : ruleR l x y = 0) (h3 : inB id 1 ss.length = true) (h4 : inB h 0 999 = true) (h5 : y ≤ h) (h6 : x ≤ (cntK l gs id : Int)) : metR ss gs l x y id h = 0 := by
  unfold metR
  rw [if_neg (by simp [h1]), if_neg (by simp [h2]), if_neg (by simp [h3, h4]), if_neg (by omega), if_neg (by omega)]
theorem met_late {ss : List ByteArray} {gs : List (Int × Int)} {l : List Int} {x y id h : Int} (H : metR ss gs l x y id h = 0) : metR ss gs l x y id 999 = 0 := by
  obtain ⟨h1, h2, h3, h4, h5, h6⟩ := met_parts H
  exact met_of h1 h2 h3 (by decide) ((ruleR_zero rfl h2).2.2.1.2) h6
theorem cntK_mono {l : List Int} {gs g2 : List (Int × Int)} {id : Int} (h : ∀ k, memB gs (k, id) = true → memB g2 (k, id) = true) : cntK l gs id ≤ cntK l g2 id := by
  unfold cntK
  induction l with
  | nil => simp
  | cons a t ih =>
    by_cases e : memB gs (a, id) = true
    · simp only [List.filter_cons, e, h a e, if_true, List.length_cons]
      omega
    · have e0 : memB gs (a, id) = false := by simpa using e
      by_cases e2 : memB g2 (a, id) = true
      · simp only [List.filter_cons, e0, e2, if_true, List.length_cons, Bool.false_eq_true, if_false]
        omega
      · have e3 : memB g2 (a, id) = false := by simpa using e2
        simp only [List.filter_cons, e0, e3, Bool.false_eq_true, if_false]
        exact ih
theorem met_sign {ss : List ByteArray} {gs g2 : List (Int × Int)} {l : List Int} {x y id h a b : Int} (H : metR ss gs l x y id h = 0) (S : Signd ss gs a b g2) : metR ss g2 l x y id h = 0 := by
  obtain ⟨h1, h2, h3, h4, h5, h6⟩ := met_parts H
  refine met_of S.ok h2 h3 h4 h5 (Int.le_trans h6 (Int.ofNat_le.2 (cntK_mono fun k hk => ?_)))
  rw [S.mem, hk]
  rfl
theorem sameR_self (l : List Int) (x y : Int) : sameR l l x x y y = true := by simp [sameR]
/-- A text that is read is that of its rule. -/
theorem prR_text {t : List UInt8} (h : (prR t).1 = 0) : rtR (prR t).2.1 (prR t).2.2.1 (prR t).2.2.2 = (0, t) := by
  unfold prR at h ⊢
  by_cases e : (parU t).2 = true
  · rw [if_pos e]
    obtain ⟨h1, h2⟩ := parU_sound e
    unfold rtR
    rw [if_neg (by simp [h1])]
    exact congrArg _ h2
  · rw [if_neg e] at h; cases h
/-- A rule is read back from its text. -/
theorem prR_back {l : List Int} {x y : Int} (h : (rtR l x y).1 = 0) : prR (rtR l x y).2 = (0, (l, x, y)) := by
  unfold rtR at h ⊢
  by_cases e : ruleR l x y ≠ 0
  · rw [if_pos e] at h; exact absurd h e
  · rw [if_neg e]
    have e0 : ruleR l x y = 0 := by simpa using e
    unfold prR
    rw [parU_rtx e0, if_pos rfl]
theorem rtR_code (l : List Int) (x y : Int) : (rtR l x y).1 = ruleR l x y := by
  unfold rtR
  by_cases e : ruleR l x y ≠ 0
  · rw [if_pos e]
  · rw [if_neg e]
    have e0 : ruleR l x y = 0 := by simpa using e
    exact e0.symm
theorem prR_codes (t : List UInt8) : (prR t).1 = 0 ∨ (prR t).1 = 5 := by
  unfold prR
  by_cases e : (parU t).2 = true
  · rw [if_pos e]; exact .inl rfl
  · rw [if_neg e]; exact .inr rfl

end Go.Proofs.YtajkihmefpbofaaGreatDoor
