/- The specification's OutSum, and the law on it, out of the program's contract. The specification's ClashTx. What the specification's TxText answers; what the program's owes. Blanks replaced by underscores, as the library says it: the same as the swap of each byte. The program's words of a transaction. The words of a transaction, joined, are its text. The program's refs written. Coins of the call's own: their row and their keys' rows; marks are written into them, and read back. -/
import Derived.Test.YtogidaebbelbfaaGreatDoorLTxFault
import Derived.Test.YtogidaebbelbfaaGreatDoorX1
import Derived.Test.YtogidaebbelbfaaGreatDoorTtT
import Derived.Test.YtogidaebbelbfaaGreatDoorRtU
import Derived.Test.YtogidaebbelbfaaGreatDoorTtS
import Derived.Lib.Replace
import Derived.Lib.Join
import Derived.Deep.RegionLaw
import Derived.Test.YtogidaebbelbfaaGreatDoorX2
import Derived.OneCell
namespace Go.Proofs.YtogidaebbelbfaaGreatDoor
open Go.RowKit Go.Maps Go.WideMaps

theorem outsR_zero {os : List Ou} (h : outsR os = 0) : ∀ o ∈ os, inB o.v 1 1000000 = true := by
  induction os with
  | nil => intro o ho; cases ho
  | cons a t ih =>
    rw [outsR] at h
    by_cases h1 : inB a.v 1 1000000 = false
    · rw [if_pos h1] at h; cases h
    · rw [if_neg h1] at h
      by_cases h2 : ruleR a.l a.x a.y ≠ 0
      · rw [if_pos h2] at h; exact absurd h h2
      · rw [if_neg h2] at h
        intro o ho
        rcases List.mem_cons.1 ho with rfl | ho
        · simpa using h1
        · exact ih h o ho
theorem txR_zero {k f : Int} {rs : List (Int × Int)} {os : List Ou} {m : Nat} (hm : os.length = m) (h : 0 = txR k f rs os) : m ≤ 4 ∧ ∀ j, j < m → 1 ≤ (os.getD j O0).v ∧ (os.getD j O0).v ≤ 1000000 := by
  unfold txR at h
  by_cases h1 : inB k 0 2 = false ∨ ¬ (k = 0 ↔ f = 0)
  · rw [if_pos h1] at h; cases h
  rw [if_neg h1] at h
  by_cases h2 : k ≠ 0 ∧ inB f 1 999 = false
  · rw [if_pos h2] at h; cases h
  rw [if_neg h2] at h
  by_cases h3 : inB rs.length 1 4 = false ∨ inB os.length 1 4 = false
  · rw [if_pos h3] at h; cases h
  rw [if_neg h3] at h
  have h4 : inB os.length 1 4 = true := by
    cases e : inB os.length 1 4
    · exact absurd (.inr e) h3
    · rfl
  by_cases h5 : refsR [] rs ≠ 0
  · rw [if_pos h5] at h; exact absurd h.symm h5
  rw [if_neg h5] at h
  unfold joinR at h
  by_cases h6 : outsR os ≠ 0
  · rw [if_pos h6] at h; exact absurd h.symm h6
  have h7 := outsR_zero (Classical.not_not.1 h6)
  have h8 := inB_true.1 h4
  refine ⟨by omega, fun j hj => ?_⟩
  have e1 : os.getD j O0 = os[j]'(by omega) := by rw [List.getD, List.getElem?_eq_getElem (by omega)]; rfl
  have := inB_true.1 (h7 (os.getD j O0) (by rw [e1]; exact List.getElem_mem _))
  exact this

end Go.Proofs.YtogidaebbelbfaaGreatDoor

namespace Go.Proofs.YtogidaebbelbfaaGreatDoor
open Go.RowKit Go.Maps Go.WideMaps

end Go.Proofs.YtogidaebbelbfaaGreatDoor

namespace Go.Proofs.YtogidaebbelbfaaGreatDoor
open Go.RowKit Go.Shelf Go.Maps Go.WideMaps

theorem refsR_zero {rs : List (Int × Int)} : ∀ seen, refsR seen rs = 0 → ∀ r ∈ rs, refB r = true := by
  induction rs with
  | nil => intro _ _ r hr; cases hr
  | cons a t ih =>
    intro seen h
    rw [refsR] at h
    by_cases h1 : refB a = false
    · rw [if_pos h1] at h; cases h
    · rw [if_neg h1] at h
      by_cases h2 : memB seen a = true
      · rw [if_pos h2] at h; cases h
      · rw [if_neg h2] at h
        intro r hr
        rcases List.mem_cons.1 hr with rfl | hr
        · simpa using h1
        · exact ih _ h r hr
theorem outsR_rule {os : List Ou} (h : outsR os = 0) : ∀ o ∈ os, ruleR o.l o.x o.y = 0 := by
  induction os with
  | nil => intro o ho; cases ho
  | cons a t ih =>
    rw [outsR] at h
    by_cases h1 : inB a.v 1 1000000 = false
    · rw [if_pos h1] at h; cases h
    · rw [if_neg h1] at h
      by_cases h2 : ruleR a.l a.x a.y ≠ 0
      · rw [if_pos h2] at h; exact absurd h h2
      · rw [if_neg h2] at h
        intro o ho
        rcases List.mem_cons.1 ho with rfl | ho
        · exact Classical.not_not.1 h2
        · exact ih h o ho
theorem getD_mem {α : Type} {l : List α} {j : Nat} {d : α} (h : j < l.length) : l.getD j d ∈ l := by
  rw [List.getD, List.getElem?_eq_getElem h]
  exact List.getElem_mem _
theorem txOk_of {k f : Int} {rs : List (Int × Int)} {os : List Ou} (h : 0 = txR k f rs os) : TxOk k f rs os := by
  obtain ⟨hm4, hv⟩ := txR_zero rfl h
  unfold txR at h
  by_cases h1 : inB k 0 2 = false ∨ ¬ (k = 0 ↔ f = 0)
  · rw [if_pos h1] at h; cases h
  rw [if_neg h1] at h
  by_cases h2 : k ≠ 0 ∧ inB f 1 999 = false
  · rw [if_pos h2] at h; cases h
  rw [if_neg h2] at h
  by_cases h3 : inB rs.length 1 4 = false ∨ inB os.length 1 4 = false
  · rw [if_pos h3] at h; cases h
  rw [if_neg h3] at h
  have h4 : inB rs.length 1 4 = true := by
    cases e : inB rs.length 1 4
    · exact absurd (.inl e) h3
    · rfl
  by_cases h5 : refsR [] rs ≠ 0
  · rw [if_pos h5] at h; exact absurd h.symm h5
  rw [if_neg h5] at h
  unfold joinR at h
  by_cases h6 : outsR os ≠ 0
  · rw [if_pos h6] at h; exact absurd h.symm h6
  have hk := inB_true.1 (show inB k 0 2 = true by cases e : inB k 0 2; exact absurd (.inl e) h1; rfl)
  have hkf : k = 0 ↔ f = 0 := Classical.not_not.1 fun e => h1 (.inr e)
  have hn := inB_true.1 h4
  have hrs := refsR_zero [] (Classical.not_not.1 h5)
  have hos := outsR_rule (Classical.not_not.1 h6)
  refine ⟨by omega, ?_, by omega, hm4, fun j hj => ?_, fun j hj => ?_⟩
  · by_cases k0 : k = 0
    · have := hkf.1 k0; omega
    · have := inB_true.1 (show inB f 1 999 = true by cases e : inB f 1 999; exact absurd ⟨k0, e⟩ h2; rfl)
      omega
  · have := hrs _ (getD_mem (d := G0) hj)
    unfold refB at this
    have a := (Bool.and_eq_true _ _).mp this
    have a1 := inB_true.1 a.1
    have a2 := inB_true.1 a.2
    omega
  · have hr := hos _ (getD_mem (d := O0) hj)
    obtain ⟨b1, b2, b3, b4⟩ := ruleR_zero rfl hr
    have hvv := hv j hj
    exact ⟨⟨by omega, by omega⟩, b1, ⟨by omega, by omega⟩, b3, fun i hi => by have := b4 _ (getD_mem (d := 0) hi); omega⟩

def ttR (k f : Int) (rs : List (Int × Int)) (os : List Ou) : Int × List UInt8 := if txR k f rs os ≠ 0 then (txR k f rs os, []) else if 300 < (txT k f rs os).length then (2, []) else (0, txT k f rs os)

theorem var_below {P : Program} {w w' : World} {nm : String} {cs : Array Value} (h : w.var? P nm = some cs) {B : Nat} (hb : Below B w w') (hB : w.heap.size ≤ B) : w'.var? P nm = some cs := by
  unfold World.var? at h ⊢
  cases hg : P.globalNamed nm with
  | none => simp [hg] at h
  | some g =>
    simp only [hg, Option.bind_some] at h ⊢
    have hlt : g < w.heap.size := by
      rcases Nat.lt_or_ge g w.heap.size with h' | h'
      · exact h'
      · simp [Array.getElem?_eq_none h'] at h
    rw [hb.block g (by omega)]
    exact h
/-- The package variables that the program's TxText reads: the table of powers, the kinds' names. -/
structure Ev (w : World) : Prop where
  tb : Tb w
  kn : w.var? Tryz.prog "loop.example/g00304/impl.kindNames" = some #[.string (str [112, 97, 121]), .string (str [106, 111, 105, 110]), .string (str [108, 101, 97, 118, 101])]
  mx : ∃ z : Int, w.cell? ⟨1, 0, none⟩ = some (.int .i64 z)
theorem Ev.below {w w' : World} (h : Ev w) {B : Nat} (hb : Below B w w') (hB : w.heap.size ≤ B) : Ev w' :=
  ⟨h.tb.below hb hB, var_below h.kn hb hB, by
    obtain ⟨z, hz⟩ := h.mx
    exact ⟨z, (hb.cell (p := ⟨1, 0, none⟩) (Nat.lt_of_lt_of_le (World.block_lt_of_cell? _ _ hz) hB)).trans hz⟩⟩

end Go.Proofs.YtogidaebbelbfaaGreatDoor

namespace Go.Proofs.YtogidaebbelbfaaGreatDoor
open Go.RowKit

theorem index_blank (l : List UInt8) : Lib.index (32 :: l) [32] = 0 := by
  unfold Lib.index
  simp [List.isPrefixOf]
theorem index_other {b : UInt8} (h : b ≠ 32) (l : List UInt8) : Lib.index (b :: l) [32] = if Lib.index l [32] == -1 then -1 else Lib.index l [32] + 1 := by
  have hb : (32 == b) = false := by simpa using fun e => h (Eq.symm e)
  conv => lhs; unfold Lib.index
  simp [List.isPrefixOf, hb]
theorem repl_other {b : UInt8} (h : b ≠ 32) (l new : List UInt8) (c : Nat) : Lib.replaceK [32] new c (b :: l) = b :: Lib.replaceK [32] new c l := by
  cases c with
  | zero => rfl
  | succ c =>
    rw [Lib.replaceK, Lib.replaceK, index_other h]
    by_cases e : (Lib.index l [32] == -1) = true
    · rw [if_pos e, if_pos e, if_pos (by rfl)]
    · rw [if_neg e]
      have hs := Lib.index_ge l [32]
      have hne : Lib.index l [32] ≠ -1 := by simpa using e
      obtain ⟨i, hi⟩ : ∃ i : Nat, Lib.index l [32] = i := ⟨(Lib.index l [32]).toNat, by omega⟩
      rw [hi]
      have h1 : ((i : Int) == -1) = false := by simp
      have h2 : ((i : Int) + 1 == -1) = false := by simp; omega
      have h3 : ((i : Int) + 1).toNat = i + 1 := by omega
      simp [h1, h2, h3]
theorem count_other {b : UInt8} (h : b ≠ 32) (l : List UInt8) (f : Nat) : Lib.countFrom [32] f (b :: l) = Lib.countFrom [32] f l := by
  cases f with
  | zero => rfl
  | succ f =>
    rw [Lib.countFrom, Lib.countFrom, index_other h]
    by_cases e : (Lib.index l [32] == -1) = true
    · rw [if_pos e, if_pos e, if_pos (by rfl)]
    · rw [if_neg e]
      have hs := Lib.index_ge l [32]
      have hne : Lib.index l [32] ≠ -1 := by simpa using e
      obtain ⟨i, hi⟩ : ∃ i : Nat, Lib.index l [32] = i := ⟨(Lib.index l [32]).toNat, by omega⟩
      rw [hi]
      have h1 : ((i : Int) == -1) = false := by simp
      have h2 : ((i : Int) + 1 == -1) = false := by simp; omega
      have h3 : ((i : Int) + 1).toNat = i + 1 := by omega
      simp [h1, h2, h3]
theorem repl_count (l : List UInt8) : ∀ f, l.length < f → Lib.replaceK [32] [95] (Lib.countFrom [32] f l) l = l.map swp := by
  induction l with
  | nil =>
    intro f _
    have : Lib.countFrom [32] f [] = 0 := by
      cases f with
      | zero => rfl
      | succ f => rfl
    rw [this]; rfl
  | cons b t ih =>
    intro f hf
    by_cases hb : b = 32
    · subst hb
      cases f with
      | zero => simp at hf
      | succ f =>
        have e1 : Lib.countFrom [32] (f + 1) (32 :: t) = Lib.countFrom [32] f t + 1 := by
          rw [Lib.countFrom, index_blank]
          simp [Nat.add_comm]
        rw [e1, Lib.replaceK, index_blank]
        have := ih f (by simp at hf; omega)
        simp [this, swp]
    · rw [count_other hb, repl_other hb, ih f (by simp at hf; omega)]
      simp [swp, hb]
theorem repl_swap (l : List UInt8) : Lib.replaceAll l [32] [95] = l.map swp := by
  have h : Lib.replaceNum l [32] (-1) = Lib.count l [32] := by unfold Lib.replaceNum; rw [if_pos (.inl (by omega))]
  unfold Lib.replaceAll Lib.replace
  rw [if_neg (by decide), h]
  exact repl_count l _ (Nat.lt_succ_self _)

end Go.Proofs.YtogidaebbelbfaaGreatDoor

namespace Go.Proofs.YtogidaebbelbfaaGreatDoor
open Go.RowKit Go.Shelf Go.Maps Go.WideMaps

theorem writeNumber_big {k : Int} (h0 : 0 ≤ k) (h1 : k ≤ 1000000) (w : World) (hT : Tb w) : Calls Tryz.prog 97 #[.int .i64 k] w fun e w' => e = .returned (.string (str (dec k))) ∧ Below w.heap.size w w' := by
  have hf := Tryz.strconv_FormatInt_10 k (by omega) (by omega) w hT
  have e1 : (⟨(Lib.itoa k).toArray⟩ : ByteArray) = str (dec k) := by
    obtain ⟨n, rfl⟩ := Int.eq_ofNat_of_zero_le h0
    rw [Lib.itoa_nonneg]; rfl
  rw [e1] at hf
  obtain ⟨s, hs⟩ : ∃ s, s = str (dec k) := ⟨_, rfl⟩
  rw [← hs] at hf ⊢
  clear hT e1 hs
  go_enter Tryz.func97, Tryz.ntmps97
  go_wp2_with (go_at_call 115; refine hf.mono ?_; rintro e w' ⟨rfl, q, os, rfl⟩)
  go_ret
  exact ⟨rfl, Lib.below_grow _ _ (Nat.le_refl _) _ _⟩

/-- What strings.ReplaceAll is owed to say here. -/
def RepAt (w : World) : Prop := ∀ (t : List UInt8) (W : World), t.length ≤ 1000 → Below w.heap.size w W → Calls Tryz.prog 101 #[.string (str t), .string ⟨#[32]⟩, .string ⟨#[95]⟩] W fun e w' => e = .returned (.string (str (t.map swp))) ∧ Below W.heap.size W w'
theorem RepAt.below {w w' : World} (h : RepAt w) (hb : Below w.heap.size w w') : RepAt w' := fun t W ht hW => h t W ht (hb.trans (hW.mono hb.size))

theorem fieldText (q : ByteArray) (W : World) : (Instr.field 46 (.agg #[.int .i64 0, .string q]) 1).run Tryz.prog W = .ok (.string q) W := by kernel_rfl
theorem keep4W {v v' : World} {P : Nat} {c0 c1 c2 c3 : Value} (hl : P < v.heap.size) (hb : Below v.heap.size v v') (h : v.cell? ⟨P, 0, none⟩ = some c0 ∧ v.cell? ⟨P, 1, none⟩ = some c1 ∧ v.cell? ⟨P, 2, none⟩ = some c2 ∧ v.cell? ⟨P, 3, none⟩ = some c3) : v'.cell? ⟨P, 0, none⟩ = some c0 ∧ v'.cell? ⟨P, 1, none⟩ = some c1 ∧ v'.cell? ⟨P, 2, none⟩ = some c2 ∧ v'.cell? ⟨P, 3, none⟩ = some c3 :=
  ⟨(hb.cell (p := ⟨P, 0, none⟩) hl).trans h.1, (hb.cell (p := ⟨P, 1, none⟩) hl).trans h.2.1, (hb.cell (p := ⟨P, 2, none⟩) hl).trans h.2.2.1, (hb.cell (p := ⟨P, 3, none⟩) hl).trans h.2.2.2⟩

set_option maxRecDepth 20000 in
set_option maxHeartbeats 1000000 in
theorem writeOut_any (u : Ou) (ka : Option Addr) (kn kc : Nat) (w : World) (hok : OutOk u) (hr : ruleR u.l u.x u.y = 0) (hkn : kn ≤ 1048576) (hI : IAt w ka kn u.l) (hTb : Tb w) (hRep : RepAt w) :
    Calls Tryz.prog 113 #[.agg #[.int .i64 u.v, .slice ka kn kc, .int .i64 u.x, .int .i64 u.y]] w fun e w' => e = .returned (.string (str (dec u.v ++ (61 :: (rtxR u.l u.x u.y).map swp)))) ∧ Below w.heap.size w w' := by
  obtain ⟨d1, hd1⟩ : ∃ z, z = dec u.v := ⟨_, rfl⟩
  obtain ⟨r1, hr1⟩ : ∃ z, z = rtxR u.l u.x u.y := ⟨_, rfl⟩
  obtain ⟨r2, hr2⟩ : ∃ z, z = r1.map swp := ⟨_, rfl⟩
  have hl1 : d1.length ≤ 10 := by rw [hd1]; exact dec_big hok.v.2
  have hlr : r1.length ≤ 100 := by rw [hr1]; exact rtx_len hok
  have hl2 : r2.length ≤ 100 := by rw [hr2]; simpa using hlr
  have hrt : rtR u.l u.x u.y = (0, r1) := by unfold rtR; rw [if_neg (by simp [hr]), hr1]
  rw [← hd1, ← hr1, ← hr2]
  obtain ⟨uv, huv⟩ : ∃ z, z = u.v := ⟨_, rfl⟩
  obtain ⟨ux, hux⟩ : ∃ z, z = u.x := ⟨_, rfl⟩
  obtain ⟨uy, huy⟩ : ∃ z, z = u.y := ⟨_, rfl⟩
  have hv := hok.v
  have hA : ∀ W, Below w.heap.size w W → Calls Tryz.prog 97 #[.int .i64 uv] W fun e w' => e = .returned (.string (str d1)) ∧ Below W.heap.size W w' := fun W hW => by rw [hd1, huv]; exact writeNumber_big hv.1 hv.2 W (hTb.below hW (Nat.le_refl _))
  have hB : ∀ W, Below w.heap.size w W → Calls Tryz.prog 120 #[.agg #[.slice ka kn kc, .int .i64 ux, .int .i64 uy]] W fun e w' => e = .returned (.agg #[.int .i64 0, .string (str r1)]) ∧ Below W.heap.size W w' := fun W hW => by
    have := iRuleText_any kn kc ka u.l u.x u.y W hkn (hI.below hW (Nat.le_refl _)) (hTb.below hW (Nat.le_refl _))
    rw [hrt] at this
    rw [hux, huy]
    exact this
  have hC : ∀ W, Below w.heap.size w W → Calls Tryz.prog 101 #[.string (str r1), .string ⟨#[32]⟩, .string ⟨#[95]⟩] W fun e w' => e = .returned (.string (str r2)) ∧ Below W.heap.size W w' := fun W hW => by rw [hr2]; exact hRep r1 W (by omega) hW
  rw [← huv, ← hux, ← huy]
  have hss : ∀ z : List UInt8, (str z).size = z.length := fun _ => rfl
  have happ : ∀ z r : List UInt8, str z ++ str r = str (z ++ r) := str_append
  have hc61 : ∀ z : List UInt8, str z ++ ⟨#[61]⟩ = str (z ++ [61]) := fun z => str_append z _
  have hfd := fieldText (str r1)
  have hz1 : ¬ 9223372036854775807 < d1.length + 1 := by omega
  have hz2 : ¬ 9223372036854775807 < d1.length + 1 + r2.length := by omega
  have hbx : Below w.heap.size w (w.alloc (.cells #[.int .i64 uv, .slice ka kn kc, .int .i64 ux, .int .i64 uy] 100)) := below_box _
  obtain ⟨W0, hW0⟩ : ∃ W0, W0 = w.alloc (.cells #[.int .i64 uv, .slice ka kn kc, .int .i64 ux, .int .i64 uy] 100) := ⟨_, rfl⟩
  have hP0 := heap_alloc_new w (.cells #[.int .i64 uv, .slice ka kn kc, .int .i64 ux, .int .i64 uy] 100)
  rw [← hW0] at hbx hP0
  obtain ⟨p0, p1, p2, p3, _⟩ := cells4 hP0
  have hl0 := lt_of_block hP0
  have HB0 : Hid (Below w.heap.size w W0) := hbx
  clear hd1 hr1 hr2 hrt huv hux huy hv hok hr hI hTb hRep hlr hbx hP0
  go_enter Tryz.func113, Tryz.ntmps113
  go_wp2
  rw [← hW0]
  clear hW0
  go_region_held3 (fun w' => w'.cell? ⟨w.heap.size, 0, none⟩ = some (.int .i64 uv) ∧ w'.cell? ⟨w.heap.size, 1, none⟩ = some (.slice ka kn kc) ∧ w'.cell? ⟨w.heap.size, 2, none⟩ = some (.int .i64 ux) ∧ w'.cell? ⟨w.heap.size, 3, none⟩ = some (.int .i64 uy)) (go_keep)
    (first
      | (go_at_call 97; refine (hA _ HB0.out.drew).mono ?_; rintro e w2 ⟨rfl, hb2⟩; obtain ⟨z0, z1, z2, z3⟩ := keep4W hl0 (show Below W0.heap.size W0 w2 from (Below.refl _ _).drew.trans hb2) ⟨p0, p1, p2, p3⟩; have hs2 : W0.heap.size ≤ w2.heap.size := hb2.size; have HB2 : Hid (Below w.heap.size w w2) := HB0.out.drew.trans (hb2.mono HB0.out.size))
      | (go_at_call 120; refine (hB _ HB2.out).mono ?_; rintro e w3 ⟨rfl, hb3⟩; obtain ⟨x0, x1, x2, x3⟩ := keep4W (Nat.lt_of_lt_of_le hl0 hs2) hb3 ⟨z0, z1, z2, z3⟩; have hs3 := Nat.le_trans hs2 hb3.size; have HB3 : Hid (Below w.heap.size w w3) := HB2.out.trans (hb3.mono HB2.out.size))
      | (go_at_call 101; refine (hC _ HB3.out).mono ?_; rintro e w4 ⟨rfl, hb4⟩; obtain ⟨v0, v1, v2, v3⟩ := keep4W (Nat.lt_of_lt_of_le hl0 hs3) hb4 ⟨x0, x1, x2, x3⟩; have HB4 : Hid (Below w.heap.size w w4) := HB3.out.trans (hb4.mono HB3.out.size)))
  go_wp2
  go_ret
  exact ⟨by simp, HB4.out⟩

end Go.Proofs.YtogidaebbelbfaaGreatDoor

namespace Go.Proofs.YtogidaebbelbfaaGreatDoor
open Go.RowKit

theorem join_flat (a : List UInt8) (t : List (List UInt8)) (sep : List UInt8) : Lib.join (a :: t) sep = a ++ t.flatMap fun x => sep ++ x := by
  unfold Lib.join
  induction t generalizing a with
  | nil => simp [List.intercalate]
  | cons b t ih =>
    have e : List.intercalate sep (a :: b :: t) = a ++ (sep ++ List.intercalate sep (b :: t)) := by simp [List.intercalate, List.intersperse]
    rw [e, ih b]
    simp

def outW (o : Ou) : List UInt8 := dec o.v ++ (61 :: (rtxR o.l o.x o.y).map swp)
def kindW (k f : Int) : List (List UInt8) := if k = 0 then [[112, 97, 121]] else if k = 1 then [[106, 111, 105, 110], dec f] else [[108, 101, 97, 118, 101], dec f]
def refsW (rs : List (Int × Int)) : List UInt8 := Lib.join (rs.map refT) [43]
def wordsT (k f : Int) (rs : List (Int × Int)) (os : List Ou) : List (List UInt8) := kindW k f ++ (refsW rs :: os.map outW)

theorem refsW_refsT {rs : List (Int × Int)} (h : rs ≠ []) : 32 :: refsW rs = refsT rs := by
  cases rs with
  | nil => exact absurd rfl h
  | cons r t =>
    unfold refsW refsT
    rw [List.map_cons, join_flat, List.flatMap_map]
    rfl
theorem join_words {k f : Int} {rs : List (Int × Int)} {os : List Ou} (hk : k = 0 ∨ k = 1 ∨ k = 2) (hr : rs ≠ []) : Lib.join (wordsT k f rs os) [32] = txT k f rs os := by
  have e := refsW_refsT hr
  have e2 : (os.map outW).flatMap (fun x => 32 :: x) = os.flatMap outT := by rw [List.flatMap_map]; rfl
  rcases hk with rfl | rfl | rfl <;> simp [wordsT, kindW, join_flat, txT, headT, kindT, ← e, e2]

end Go.Proofs.YtogidaebbelbfaaGreatDoor

namespace Go.Proofs.YtogidaebbelbfaaGreatDoor
open Go.RowKit Go.Shelf Go.Maps Go.WideMaps

def texts (ls : List (List UInt8)) : List Value := ls.map fun t => .string (str t)
theorem texts_more (ls : List (List UInt8)) (t : List UInt8) : texts (ls ++ [t]) = texts ls ++ [.string (str t)] := by simp [texts]

/-- A word more: what the append leaves. -/
theorem word_added {W w2 : World} {B k : Nat} {v : Value} {xs : List Value} (s : ByteArray) (hrow : W.ownsRow B 9 1 v k xs) (hb : Below W.heap.size W w2) (hB : B ≤ W.heap.size) (hk : k ≤ 100) :
    ∃ g cap w3, (Builtin.append_ #[22, 22] 22 #[v, .slice (some ⟨w2.heap.size, 0, none⟩) 1 1]).run Tryz.prog (w2.alloc (.cells #[.string s] 9)) = .ok (.slice (some ⟨g, 0, none⟩) (k + 1) cap) w3 ∧
      Hid (w3.ownsRow B 9 1 (.slice (some ⟨g, 0, none⟩) (k + 1) cap) (k + 1) (xs ++ [.string s]) ∧ Below B W w3) := by
  obtain ⟨i0, hi, hz0, hz1, hz2⟩ := info_parts Tryz.infoStr
  have hg2 := grown_of_below hb
  have hrow2 : w2.ownsRow B 9 1 v k xs := hrow.kept hg2 (by cases Value.ownBlock v <;> simp)
  have hs2 := hb.size
  obtain ⟨v', w3, hrun, hown', hgrow, _⟩ := run_append_own (P := Tryz.prog) (w2.alloc (.cells #[.string s] 9)) B 22 22 9 i0 (.string ByteArray.empty) 1 16 Tryz.underlying22 hi hz0 hz1 hz2 rfl (by decide) v k _ (hrow2.alloc _) ⟨w2.heap.size, 0, none⟩ 1 1 [.string s] rfl (cell_one_new _ _ _) (by simp [Value.oneCell']) (by unfold maxLen; omega) (by omega) (by simp; omega)
  obtain ⟨g, cap, rfl⟩ := ownsRow_succ hown'
  refine ⟨g, cap, w3, hrun, hown', ?_⟩
  exact Below.grown ((hb.mono hB).trans ((below_box _).mono (by omega))) hgrow (by simp; omega) (fun q hq => (hrow.lt q hq).1)

/-- An append as one step of a region that draws, out of its own run. -/
theorem step_append_run {P : Program} {w : World} {ops : Array Oper} {o : Oper} {a : Act} {K : Act → World → Prop} {Q : Exit → Act → World → Prop} {E : Prop} (hgd : o.guard = none) (s x : Operand) (t : TypeId)
    (hop : o.op = .call { callee := .builtin .append, args := #[s, x], argTypes := #[t, t] }) {v u v' : Value} {w' : World} (hs : a.eval s = v) (hx : a.eval x = u) (hrun : (Builtin.append_ #[t, t] o.type #[v, u]).run P w = .ok v' w') (h : K (a.put o.dst v') w') :
    if Region.wanted o (yielded ops a.tmps) = true then Oper.wp P o a w K Q else E := by
  rw [if_pos (by simp [Region.wanted, hgd])]
  unfold Oper.wp
  simp [execOp, hop, resolve, invoke, builtin, hs, hx, hrun, Result.andThen]
  exact h

/-- Words joined. -/
theorem join_any (c : UInt8) (v : Value) (W : World) {ls : List (List UInt8)} {n base : Nat} (hrow : W.ownsRow base 9 1 v n (texts ls)) (hn : n = ls.length) (h3 : ls.length ≤ 100) (htot : (Lib.join ls [c]).length ≤ 100000) :
    Calls Tryz.prog 93 #[v, .string ⟨#[c]⟩] W fun e w' => e = .returned (.string (str (Lib.join ls [c]))) ∧ Below W.heap.size W w' := by
  subst hn
  have hmap : (ls.map str).map (·.data.toList) = ls := by
    rw [List.map_map]
    conv => rhs; rw [← List.map_id ls]
    apply List.map_congr_left
    intro k _
    simp [str]
  rcases id hrow.2 with ⟨rfl, h0⟩ | ⟨g, cp, cur, rfl, _, _, h1, _⟩
  · obtain rfl : ls = [] := List.length_eq_zero_iff.1 h0
    exact (Tryz.strings_Join_none none 0 ⟨#[c]⟩ W).mono fun e w' ⟨he, hw⟩ => ⟨he, hw ▸ Below.refl _ _⟩
  · have hJ := Tryz.strings_Join g 0 cp (ls.map str) ⟨#[c]⟩ W (fun j x hj => by
      have hjl : j < ls.length := by
        have := (List.getElem?_eq_some_iff.1 hj).1
        simpa using this
      rw [Nat.zero_add, hrow.cellAt j (by omega)]
      simp [texts]
      simp at hj
      obtain ⟨a, ha, rfl⟩ := hj
      exact ⟨a, ha, rfl⟩) (hrow.lt g rfl).2 (by simp; omega) (by simpa using h1) (by
        show (Lib.join _ [c]).length ≤ _
        rw [hmap]
        omega)
    rw [List.length_map] at hJ
    refine hJ.mono fun e w' ⟨he, hb⟩ => ⟨?_, hb⟩
    rw [he]
    show Ending.returned (.string ⟨(Lib.join _ [c]).toArray⟩) = _
    rw [hmap]
    rfl

theorem refT_len {r : Int × Int} (h1 : r.1 ≤ 999) (h2 : r.2 ≤ 999) : (refT r).length ≤ 21 := by
  have a := dec_len h1
  have b := dec_len h2
  simp [refT]; omega
theorem flat_len {α : Type} (f : α → List UInt8) (b : Nat) : ∀ l : List α, (∀ x ∈ l, (f x).length ≤ b) → (l.flatMap f).length ≤ b * l.length := by
  intro l
  induction l with
  | nil => intro _; simp
  | cons a t ih =>
    intro h
    have h1 := h a (by simp)
    have h2 := ih fun x hx => h x (by simp [hx])
    rw [List.flatMap_cons, List.length_append, List.length_cons, Nat.mul_add]
    omega
theorem refsW_len {rs : List (Int × Int)} (hn : rs.length ≤ 4) (h : ∀ r ∈ rs, r.1 ≤ 999 ∧ r.2 ≤ 999) : (refsW rs).length ≤ 200 := by
  cases rs with
  | nil => simp [refsW, Lib.join, List.intercalate]
  | cons a t =>
    unfold refsW
    rw [List.map_cons, join_flat, List.flatMap_map]
    have h1 := refT_len (h a (by simp)).1 (h a (by simp)).2
    have h2 := flat_len (fun r => [43] ++ refT r) 22 t fun r hr => by
      have := refT_len (h r (by simp [hr])).1 (h r (by simp [hr])).2
      simp; omega
    simp at hn
    rw [List.length_append]
    have h3 : (t.flatMap (fun r => [43] ++ refT r)).length = (List.flatMap (fun a => [43] ++ refT a) t).length := rfl
    omega

set_option maxRecDepth 20000 in
set_option maxHeartbeats 2000000 in
theorem writeRefs_any (n c : Nat) (ia : Option Addr) (rs : List (Int × Int)) (w : World) (hn4 : n ≤ 4) (hrb : ∀ j, j < n → (0 ≤ (rs.getD j G0).1 ∧ (rs.getD j G0).1 ≤ 999) ∧ 0 ≤ (rs.getD j G0).2 ∧ (rs.getD j G0).2 ≤ 999) (h : GAt w ia n rs) (hTb : Tb w) :
    Calls Tryz.prog 112 #[.slice ia n c] w fun e w' => e = .returned (.string (str (refsW rs))) ∧ Below w.heap.size w w' := by
  have HN : Hid (rs.length = n) := h.1
  have HG : Hid (GAt w ia n rs) := h
  have HR : Hid (∀ j, j < n → (0 ≤ (rs.getD j G0).1 ∧ (rs.getD j G0).1 ≤ 999) ∧ 0 ≤ (rs.getD j G0).2 ∧ (rs.getD j G0).2 ≤ 999) := hrb
  have HTB : Hid (Tb w) := hTb
  have hss : ∀ z : List UInt8, (str z).size = z.length := fun _ => rfl
  have happ : ∀ z r : List UInt8, str z ++ str r = str (z ++ r) := str_append
  have hc58 : ∀ z : List UInt8, str z ++ ⟨#[58]⟩ = str (z ++ [58]) := fun z => str_append z _
  obtain ⟨rt, hrt⟩ : ∃ q, q = refsW rs := ⟨_, rfl⟩
  rw [← hrt]
  have HRT : Hid (rt = refsW rs) := hrt
  clear h hrb hTb hrt
  go_enter Tryz.func112, Tryz.ntmps112
  go_wp2
  go_loopw [3, 8] (fun v i wr => ∃ j : Nat, j ≤ n ∧ i = .int .i64 j ∧ Hid (wr.ownsRow w.heap.size 9 1 v j (texts ((rs.take j).map refT))) ∧ Below w.heap.size w wr) (fun _ i _ => n - (intOf i).toNat)
  case atStart => exact ⟨0, Nat.zero_le _, rfl, by show World.ownsRow _ _ _ _ _ _ _; simp [texts]; exact World.ownsRow_nil _ _ _ _, Below.refl _ _⟩
  case round =>
    obtain ⟨j, hj, rfl, HO, hbel⟩ := hrel
    by_cases hlt : j < n
    · rcases HG.out.2 with h0 | ⟨b, off, e0, l0, d0⟩
      · omega
      subst e0
      obtain ⟨g, hg⟩ : ∃ g, g = rs.getD j G0 := ⟨_, rfl⟩
      have hcx := d0 j hlt
      have hrb := HR.out j hlt
      rw [← hg] at hcx hrb
      obtain ⟨g1, g2⟩ := g
      have c0 := (hbel.cell (p := ⟨b, off + j * 2, none⟩) l0).trans hcx.1
      have c1 := (hbel.cell (p := ⟨b, off + j * 2 + 1, none⟩) l0).trans hcx.2
      obtain ⟨d1, hd1⟩ : ∃ o, o = dec g1 := ⟨_, rfl⟩
      obtain ⟨d2, hd2⟩ : ∃ o, o = dec g2 := ⟨_, rfl⟩
      have hl1 : d1.length ≤ 10 := by rw [hd1]; exact dec_len hrb.1.2
      have hl2 : d2.length ≤ 10 := by rw [hd2]; exact dec_len hrb.2.2
      have hA : ∀ W, Below w.heap.size w W → Calls Tryz.prog 97 #[.int .i64 g1] W fun e w' => e = .returned (.string (str d1)) ∧ Below W.heap.size W w' := fun W hW => by rw [hd1]; exact writeNumber_any hrb.1.1 hrb.1.2 W (HTB.out.below hW (Nat.le_refl _))
      have hB : ∀ W, Below w.heap.size w W → Calls Tryz.prog 97 #[.int .i64 g2] W fun e w' => e = .returned (.string (str d2)) ∧ Below W.heap.size W w' := fun W hW => by rw [hd2]; exact writeNumber_any hrb.2.1 hrb.2.2 W (HTB.out.below hW (Nat.le_refl _))
      have HX : Hid ((rs.take (j + 1)).map refT = (rs.take j).map refT ++ [d1 ++ (58 :: d2)]) := by
        show _ = _
        rw [take_next2 HN.out hlt hg, List.map_append, hd1, hd2]
        rfl
      clear hg hd1 hd2 hrb hcx d0
      have hki : (j : Int) < (n : Int) := by omega
      have hz1 : ¬ 9223372036854775807 < d1.length + 1 := by omega
      have hz2 : ¬ 9223372036854775807 < d1.length + 1 + d2.length := by omega
      obtain ⟨W0, hW0⟩ : ∃ W0, W0 = wr.alloc (.cells #[.int .i64 g1, .int .i64 g2] 115) := ⟨_, rfl⟩
      have hP0 := heap_alloc_new wr (.cells #[.int .i64 g1, .int .i64 g2] 115)
      have hO0 := HO.out.alloc (.cells #[.int .i64 g1, .int .i64 g2] 115)
      have hB0 : Below w.heap.size w (wr.alloc (.cells #[.int .i64 g1, .int .i64 g2] 115)) := hbel.trans ((below_box _).mono hbel.size)
      rw [← hW0] at hP0 hO0 hB0
      obtain ⟨p0, p1⟩ := cells2 hP0
      have hl0 := lt_of_block hP0
      have HO0 : Hid _ := hO0
      have HB0 : Hid (Below w.heap.size w W0) := hB0
      clear hP0 hO0 hB0
      go_wp2
      rw [← hW0]
      clear hW0
      go_region_law (first
        | (refine step_append_run (by rfl) _ _ _ (by rfl) (by rfl) (by rfl) hrun ?_)
        | (rw [if_pos (by rfl)]; go_simp; go_at_call 97; (first
            | (have hA' := hA; (with_reducible refine (hA' _ HB0.out.drew).mono ?_); clear hA hA'; rintro e w2 ⟨rfl, hb2⟩; have HB20 : Hid (Below W0.heap.size W0 w2) := (Below.refl _ _).drew.trans hb2; have HB2 : Hid (Below w.heap.size w w2) := HB0.out.trans (HB20.out.mono HB0.out.size); have z1 := (HB20.out.cell (p := ⟨wr.heap.size, 1, none⟩) hl0).trans p1; clear hb2)
            | ((with_reducible refine (hB _ HB2.out).mono ?_); rintro e w3 ⟨rfl, hb3⟩; have HB30 : Hid (Below W0.heap.size W0 w3) := HB20.out.trans (hb3.mono HB20.out.size); obtain ⟨ga, gc, w4, hrun, HW⟩ := word_added (str (d1 ++ (58 :: d2))) HO0.out HB30.out HB0.out.size (by omega); clear hb3))))
      all_goals
        go_wp2
        go_roundw
        case rel => exact ⟨j + 1, by omega, by go_num, by show World.ownsRow _ _ _ _ _ _ _; rw [HX.out, texts_more]; exact HW.out.1, HB0.out.trans HW.out.2⟩
        case measure => simp [intOf]; omega
    · have e1 : rs.take j = rs := List.take_of_length_le (by rw [HN.out]; omega)
      have hjn : j = n := by omega
      have HO2 := HO.out
      rw [e1] at HO2
      have hJ := join_any 43 u3 wr HO2 (by rw [List.length_map, HN.out]; exact hjn) (by rw [List.length_map, HN.out]; omega) (by
        have := refsW_len (rs := rs) (by rw [HN.out]; exact hn4) (fun r hr => by
          obtain ⟨i, hi, e⟩ := List.getElem_of_mem hr
          have h1 := HR.out i (by rw [← HN.out]; exact hi)
          have h2 : rs.getD i G0 = r := by rw [List.getD, List.getElem?_eq_getElem hi, ← e]; rfl
          rw [h2] at h1
          exact ⟨h1.1.2, h1.2.2⟩)
        unfold refsW at this
        omega)
      have hJ2 : Calls Tryz.prog 93 #[u3, .string ⟨#[43]⟩] wr fun e w' => e = .returned (.string (str rt)) ∧ Below wr.heap.size wr w' := by rw [HRT.out]; exact hJ
      clear hJ e1 HO2
      go_wp2_with (go_at_call 93; refine hJ2.mono ?_; rintro e w5 ⟨rfl, hb5⟩)
      go_ret
      exact ⟨rfl, hbel.trans (hb5.mono hbel.size)⟩

end Go.Proofs.YtogidaebbelbfaaGreatDoor

namespace Go.Proofs.YtogidaebbelbfaaGreatDoor
open Go.RowKit Go.Maps Go.WideMaps

set_option maxHeartbeats 400000 in
theorem markK_any (v : Value) (n base k : Nat) (xs : List Value) (w : World) (hkn : k + n ≤ 4611686018427387904) (ho : w.ownsRow base 2 1 v n xs) :
    Calls Tryz.prog 69 #[v, .int .i64 k] w fun e w' => e = .returned (.int .i64 (k + n : Nat)) ∧ w'.ownsRow base 2 1 v n (mkI k n) ∧ w.grownBy w' v.ownBlock := by
  rcases id ho.2 with ⟨rfl, rfl⟩ | ⟨g, cap, cur, rfl, hbg, hgg, hnc, hcm, _⟩
  · go_enter Tryz.func69, Tryz.ntmps69
    go_wp2
    refine wp_loop_rounds 1 ?_
    rw [rounds_succ]
    go_wp2
    go_ret
    exact ⟨rfl, World.ownsRow_nil _ _ _ _, World.grownBy.refl _ _⟩
  · have HO : Hid (w.ownsRow base 2 1 (.slice (some ⟨g, 0, none⟩) n cap) n xs) := ho
    clear ho hbg hgg hnc hcm
    go_enter Tryz.func69, Tryz.ntmps69
    go_wp2
    go_loopw [1, 5] (fun a i wr => ∃ j : Nat, j ≤ n ∧ i = .int .i64 j ∧ a = .int .i64 (k + j : Nat) ∧ Hid (w.grownBy wr (some g)) ∧ Hid (∃ xs, wr.ownsRow base 2 1 (.slice (some ⟨g, 0, none⟩) n cap) n xs ∧ ∀ t, t < j → xs[t]? = some (.int .i64 (k + t : Nat)))) (fun _ i _ => n - (intOf i).toNat)
    case atStart => exact ⟨0, Nat.zero_le _, rfl, rfl, World.grownBy.refl _ _, xs, HO.out, fun t ht => by omega⟩
    case round =>
      obtain ⟨j, hj, rfl, rfl, HG, HX⟩ := hrel
      by_cases hlt : j < n
      · obtain ⟨u, c0, f0, HR⟩ := markI_round hlt HG.out HX.out (a := (k : Int) + (j : Int)) (by omega)
        go_wp2
        go_roundw
        case rel => exact ⟨j + 1, by omega, by go_num, by go_num, HR.out.1, HR.out.2⟩
        case measure => simp [intOf]; omega
      · go_wp2
        go_ret
        obtain ⟨ys, h1, h2⟩ := HX.out
        have hjn : j = n := by omega
        subst hjn
        refine ⟨rfl, ?_, HG.out⟩
        rw [← mkI_of h1.1 h2]
        exact h1

set_option maxHeartbeats 400000 in
theorem heldK_any (v : Value) (n base k : Nat) (w : World) (hkn : k + n ≤ 4611686018427387904) (ho : w.ownsRow base 2 1 v n (mkI k n)) :
    Calls Tryz.prog 70 #[v, .int .i64 k] w fun e w' => e = .returned (.int .i64 (k + n : Nat)) ∧ w' = w := by
  rcases id ho.2 with ⟨rfl, rfl⟩ | ⟨g, cap, cur, rfl, hbg, hgg, hnc, hcm, _⟩
  · go_enter Tryz.func70, Tryz.ntmps70
    go_wp2
    refine wp_loop_rounds 1 ?_
    rw [rounds_succ]
    go_wp2
    go_ret
    exact ⟨rfl, rfl⟩
  · have HO : Hid (w.ownsRow base 2 1 (.slice (some ⟨g, 0, none⟩) n cap) n (mkI k n)) := ho
    clear ho hbg hgg hnc hcm
    go_enter Tryz.func70, Tryz.ntmps70
    go_wp2
    go_loop [1, 5] (fun a i => ∃ j : Nat, j ≤ n ∧ i = .int .i64 j ∧ a = .int .i64 (k + j : Nat)) (fun _ i => n - (intOf i).toNat)
    case atStart => exact ⟨0, Nat.zero_le _, rfl, rfl⟩
    case round =>
      obtain ⟨j, hj, rfl, rfl⟩ := hrel
      by_cases hlt : j < n
      · have c0 : w.cell? ⟨g, j, none⟩ = some (.int .i64 ((k : Int) + (j : Int))) := (HO.out.cellAt j (by omega)).trans (by rw [mkI_at hlt]; simp)
        go_wp2
        go_round
        case rel => exact ⟨j + 1, by omega, by go_num, by go_num⟩
        case measure => simp [intOf]; omega
      · go_wp2
        go_ret
        have hjn : j = n := by omega
        subst hjn
        exact ⟨rfl, rfl⟩

theorem Chg.refl (w : World) (lo hi : Nat) : Chg w w lo hi := ⟨rfl, rfl, rfl, Nat.le_refl _, fun _ _ _ => rfl⟩
theorem Chg.setCell {w W : World} {lo hi g t : Nat} (h : Chg w W lo hi) (hg : lo ≤ g ∧ g < hi) (u : Value) : Chg w (W.setCell ⟨g, t, none⟩ u) lo hi :=
  ⟨h.os, h.tape, h.output, by simpa using h.size, fun b hb ho => (Below.heap_setCell _ ⟨g, t, none⟩ u b (show b ≠ g by omega)).trans (h.block b hb ho)⟩

def mkKs (k n : Nat) : List Int := (List.range n).map fun t => ((k + t : Nat) : Int)
theorem ints_mkKs (k n : Nat) : ints (mkKs k n) = mkI k n := by simp [ints, mkKs, mkI]
theorem mkKs_length (k n : Nat) : (mkKs k n).length = n := by simp [mkKs]
end Go.Proofs.YtogidaebbelbfaaGreatDoor
