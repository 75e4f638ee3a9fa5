/- The program's table of signatures, as the one of texts. -/
import Derived.Test.YtaopblgnmmhjfaaTw
import Derived.Deep.DrawnRows
namespace Go.Proofs.Ytaopblgnmmhjfaa
open Go.RowKit Go.Maps Go.WideMaps

theorem Try.cellsSig : Try.prog.cellsOf 115 = 2 := by kernel_rfl
theorem Try.cellsI64 : Try.prog.cellsOf 2 = 1 := by kernel_rfl
theorem Try.someTypes : ∃ m, Try.prog.types.size = m + 1 := ⟨Try.prog.types.size - 1, by have : 0 < Try.prog.types.size := of_decide_eq_true (by kernel_rfl); omega⟩
theorem Try.cutSig : (Try.prog.cutTypes.any (·.2 == 115)) = false := by kernel_rfl
theorem Try.keyAtSig (m : Nat) : Try.prog.keyTypeAt (m + 2) 115 = true := by
  have h2 : Try.prog.keyTypeAt (m + 1) 2 = true := by unfold Program.keyTypeAt; rw [Try.underlying2]
  unfold Program.keyTypeAt
  rw [Try.underlying115]
  simp only [Try.cutSig, Try.stoodInHeld115]
  simp [h2]
theorem Try.keySig : Try.prog.keyType 115 = true := by
  obtain ⟨m, hm⟩ := Try.someTypes
  unfold Program.keyType
  rw [hm]
  exact Try.keyAtSig m

theorem Try.litI64 (m : Nat) {x : Int} (hx : (Lit.int .i64 x).wf = true) : Try.prog.keyLits (m + 1) 2 [.int .i64 x] = some [.int .i64 x] := by
  unfold Program.keyLits
  rw [Try.underlying2]
  simp [hx]

theorem Try.litsSig (m : Nat) {p q : Int} (hp : (Lit.int .i64 p).wf = true) (hq : (Lit.int .i64 q).wf = true) : Try.prog.keyLits (m + 2) 115 [.int .i64 p, .int .i64 q] = some [.int .i64 p, .int .i64 q] := by
  unfold Program.keyLits
  rw [Try.underlying115]
  simp [Try.cellsSig, Try.cellsI64, Try.litI64 m hp, Try.litI64 m hq]

theorem keyG {p q : Int} (hp : (Lit.int .i64 p).wf = true) (hq : (Lit.int .i64 q).wf = true) : ∃ kl, keyOf Try.prog 115 (.agg #[.int .i64 p, .int .i64 q]) = some kl := by
  obtain ⟨m, hm⟩ := Try.someTypes
  refine ⟨.string (keyBytes [.int .i64 p, .int .i64 q]), ?_⟩
  have hf : (Value.agg #[.int .i64 p, .int .i64 q]).formed Try.prog 115 = true := by simp [Value.formed, Try.underlying115, Try.cellsSig]
  unfold keyOf
  rw [Try.underlying115]
  simp only [Try.keySig, hf, hm, Bool.and_self, if_true]
  have hc : (Value.agg #[.int .i64 p, .int .i64 q]).cells.toList = [.int .i64 p, .int .i64 q] := rfl
  rw [hc, Try.litsSig m hp hq]
  rfl

/-- The table of signatures behind the pointer to block p. -/
def TwG (w : World) (base p : Nat) (l : List (Int × Int)) : Prop :=
  ∃ iv B, w.heap[p]? = some (.cells #[iv, .map (some B)] 122 (0, 0)) ∧ base ≤ p ∧ base ≤ B ∧ w.ownsRow base 115 2 iv l.length (gcells l) ∧ Tab 115 encG w B l

theorem grown_of_below {w w' : World} (h : Below w.heap.size w w') : w.grownBy w' none := ⟨h.os, h.tape, h.output, h.size, fun k hk _ => h.block k hk⟩

theorem TwS.below {w w' : World} {base p : Nat} {l : List ByteArray} (h : TwS w base p l) (hb : Below w.heap.size w w') : TwS w' base p l := by
  obtain ⟨iv, B, hp, hbp, hbB, ho, ht⟩ := h
  exact ⟨iv, B, (hb.block p (lt_of_block hp)).trans hp, hbp, hbB, ho.kept (grown_of_below hb) (by cases iv.ownBlock <;> simp), ht.kept (grown_of_below hb) (by simp)⟩

theorem TwG.below {w w' : World} {base p : Nat} {l : List (Int × Int)} (h : TwG w base p l) (hb : Below w.heap.size w w') : TwG w' base p l := by
  obtain ⟨iv, B, hp, hbp, hbB, ho, ht⟩ := h
  exact ⟨iv, B, (hb.block p (lt_of_block hp)).trans hp, hbp, hbB, ho.kept (grown_of_below hb) (by cases iv.ownBlock <;> simp), ht.kept (grown_of_below hb) (by simp)⟩

theorem numG_any (p B : Nat) (l : List (Int × Int)) (a b : Int) (w : World) (ha : (Lit.int .i64 a).wf = true) (hb : (Lit.int .i64 b).wf = true) (hpl : p < w.heap.size) (hM : w.cell? ⟨p, 1, none⟩ = some (.map (some B))) (hT : Tab 115 encG w B l) :
    Calls Try.prog 86 #[.pointer (some ⟨p, 0, none⟩), .agg #[.int .i64 a, .int .i64 b]] w fun e w' => e = .returned (.int .i64 (num l (a, b) : Nat)) ∧ Below w.heap.size w w' := by
  obtain ⟨kl, hk⟩ := keyG ha hb
  have hrun : ∀ j, (Instr.lookup 120 (.map (some B)) (.agg #[.int .i64 a, .int .i64 b]) false).run Try.prog ((w.alloc (.cells #[.int .i64 a, .int .i64 b] 115)).drewN j) = .ok (.int .i64 (num l (a, b) : Nat)) ((w.alloc (.cells #[.int .i64 a, .int .i64 b] 115)).drewN j) :=
    fun j => ((hT.alloc _).draws j).look kG Try.underlying120 (x := (a, b)) hk
  clear hT hk ha hb
  obtain ⟨c, hc⟩ : ∃ c, c = num l (a, b) := ⟨_, rfl⟩
  rw [← hc] at hrun ⊢
  clear hc
  go_enter Try.func86, Try.ntmps86
  go_wp2
  go_quiet (fail)
  go_wp2
  go_ret
  exact ⟨rfl, ((Below.refl _ _).alloc (Nat.le_refl _) _).trans (Joins.below_draws _ _ _)⟩

theorem countG_any (p n cap : Nat) (a : Option Addr) (w : World) (hI : w.cell? ⟨p, 0, none⟩ = some (.slice a n cap)) :
    Calls Try.prog 87 #[.pointer (some ⟨p, 0, none⟩)] w fun e w' => e = .returned (.int .i64 n) ∧ w' = w := by
  go_enter Try.func87, Try.ntmps87
  go_wp2
  go_ret
  exact ⟨rfl, rfl⟩

theorem newG_any (w : World) : Calls Try.prog 163 #[] w fun e w' => ∃ p, e = .returned (.pointer (some ⟨p, 0, none⟩)) ∧ TwG w' w.heap.size p [] ∧ Below w.heap.size w w' := by
  have hmm := @run_makeMap Try.prog
  go_enter Try.func163, Try.ntmps163
  go_wp2
  go_ret
  refine ⟨w.heap.size + 1, rfl, ⟨.slice none 0 0, w.heap.size, ?_, by omega, Nat.le_refl _, World.ownsRow_nil _ _ _ _, (Tab.made w).alloc _⟩, ((Below.refl _ _).alloc (Nat.le_refl _) _).alloc (by simp) _⟩
  have := heap_alloc_new (w.alloc (.map #[] 0)) (.cells #[.slice none 0 0, .map (some w.heap.size)] 122)
  simpa using this

theorem addG_old (p base : Nat) (l : List (Int × Int)) (a b : Int) (w : World) (ha : (Lit.int .i64 a).wf = true) (hb : (Lit.int .i64 b).wf = true) (hn : ¬ num l (a, b) = 0) (h : TwG w base p l) :
    Calls Try.prog 88 #[.pointer (some ⟨p, 0, none⟩), .agg #[.int .i64 a, .int .i64 b]] w fun e w' => e = .returned (.bool false) ∧ Below w.heap.size w w' := by
  have hbx : Below w.heap.size w (w.alloc (.cells #[.int .i64 a, .int .i64 b] 115)) := (Below.refl _ _).alloc (Nat.le_refl _) _
  obtain ⟨iv, B, hp, hbp, hbB, ho, ht⟩ := h.below hbx
  have hpl := lt_of_block hp
  have c1 : (w.alloc (.cells #[.int .i64 a, .int .i64 b] 115)).cell? ⟨p, 1, none⟩ = some (.map (some B)) := by unfold World.cell?; rw [hp]; rfl
  obtain ⟨c, hc⟩ : ∃ c, c = num l (a, b) := ⟨_, rfl⟩
  have hnum := numG_any p B l a b _ ha hb hpl c1 ht
  rw [← hc] at hnum hn
  have hcz : (c : Int) ≠ 0 := by omega
  clear hc ho ht h
  go_enter Try.func88, Try.ntmps88
  go_wp2_with (first | (go_at_call 86; refine hnum.mono ?_; rintro e w2 ⟨rfl, hb2⟩))
  go_ret
  exact ⟨rfl, hbx.trans (hb2.mono (by simp))⟩

theorem addG_mid {w w1 : World} {base p B g cap : Nat} {iv : Value} {l : List (Int × Int)} {x : Int × Int} {o : Obj} (hp : w.heap[p]? = some (.cells #[iv, .map (some B)] 122 (0, 0))) (hbp : base ≤ p) (hbB : base ≤ B)
    (ho : w.ownsRow base 115 2 iv l.length (gcells l)) (ht : Tab 115 encG w B l)
    (ho1 : w1.ownsRow base 115 2 (.slice (some ⟨g, 0, none⟩) (l.length + 1) cap) (l.length + 1) (gcells l ++ [.int .i64 x.1, .int .i64 x.2])) (hg1 : (w.alloc o).grownBy w1 iv.ownBlock) :
    iv.ownBlock ≠ some p ∧ iv.ownBlock ≠ some B ∧ w1.heap[p]? = some (.cells #[iv, .map (some B)] 122 (0, 0)) ∧ p ≠ g ∧ Tab 115 encG w1 B l ∧ p ≠ B ∧ Below base w w1 := by
  have hpl : p < w.heap.size := lt_of_block hp
  have hBl : B < w.heap.size := ht.lt
  have hne : ∀ q o, w.heap[q]? = some o → (∀ cur, o ≠ .cells cur 115 (0, 0)) → iv.ownBlock ≠ some q := by
    intro q o hq hno hiv
    rcases ho.2 with ⟨rfl, _⟩ | ⟨g', c', cur, rfl, _, hh, _⟩
    · simp [Value.ownBlock] at hiv
    · simp [Value.ownBlock] at hiv
      subst hiv
      rw [hh] at hq
      exact hno cur (by simpa using hq.symm)
  have n1 : iv.ownBlock ≠ some p := hne p _ hp (fun cur e => by simp at e)
  obtain ⟨D, hD, _⟩ := id ht
  obtain ⟨es, ck, hes, _⟩ := hD
  have n2 : iv.ownBlock ≠ some B := hne B _ hes (fun cur e => by simp at e)
  have a1 : (w.alloc o).heap[p]? = some (.cells #[iv, .map (some B)] 122 (0, 0)) := (Below.heap_alloc w _ p hpl).trans hp
  have hp1 := (hg1.block p (by simp; omega) (Ne.symm n1)).trans a1
  have hgp : p ≠ g := by
    rintro rfl
    rcases ho1.2 with ⟨h, _⟩ | ⟨g', c', cur, h, _, hh, _⟩
    · cases h
    · simp at h
      rw [← h.1, hp1] at hh
      simp at hh
  have hpB : p ≠ B := by rintro rfl; rw [hp] at hes; simp at hes
  refine ⟨n1, n2, hp1, hgp, (ht.alloc _).kept hg1 (Ne.symm n2), hpB, ?_⟩
  refine ((Below.refl base w).alloc (by omega) _).grown hg1 (by simp; omega) (fun k hk => ?_)
  exact (ho.lt k hk).1

end Go.Proofs.Ytaopblgnmmhjfaa
