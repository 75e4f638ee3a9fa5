/- The program's NewCluster. -/
import Derived.Test.YtmnahhojfcigmaaUf
import Derived.Test.YtmnahhojfcigmaaZh
namespace Go.Proofs.Ytmnahhojfcigmaa
open Go.RowKit Go.Maps Go.WideMaps

/-- What a new cluster comes to. -/
structure Cr where
  cd : Int
  ks : List Int
  nd : Int
  bd : List Int
  gs : List Int
  h : Nat
def cluR (l : List Int) (x : Int) (t : List Int) (h : Int) : Cr := if cluC l x t h = 0 then ⟨0, l, x, t, goodL l t, h.toNat⟩ else ⟨cluC l x t h, [], 0, [], [], 0⟩
def OutNc (ap : Bool) (w w' : World) (e : Ending) (r : Cr) : Prop :=
  ∃ ka kc ba bc va vc ha hc, e = .returned (.agg #[.int .i64 r.cd, .slice ka r.ks.length kc, .int .i64 r.nd, .slice ba r.bd.length bc, .slice none 0 0, .slice va r.gs.length vc, .slice none 0 0, .slice ha r.h hc]) ∧ ClR ap w.heap.size w' r.ks r.bd r.gs r.h ka kc ba bc va vc ha hc ∧ Below w.heap.size w w'
theorem ClR.nil (ap : Bool) (base : Nat) (W : World) : ClR ap base W [] [] [] 0 none 0 none 0 none 0 none 0 :=
  ⟨World.ownsRow_nil _ _ _ _, World.ownsRow_nil _ _ _ _, (fun _ b e => (by cases e)), World.ownsRow_nil _ _ _ _, World.ownsRow_nil _ _ _ _⟩
theorem quoR_fits {l : List Int} {x : Int} (h : quoR l x = 0) : 1 ≤ l.length ∧ l.length ≤ 8 ∧ allK l = true := by
  unfold quoR at h
  split at h
  · omega
  · rename_i h1
    split at h
    · omega
    · rename_i h2
      have a1 := inB_true.1 (by simpa using h1 : inB (l.length : Int) 1 8 = true)
      exact ⟨by omega, by omega, by simpa using (not_or.1 h2).1⟩
theorem badR_zero {t : List Int} (h : badR t = 0) : allK t = true := by
  unfold badR at h
  split at h
  · omega
  · rename_i h1
    simpa using h1
theorem cluC_zero {l t : List Int} {x h : Int} (hc : cluC l x t h = 0) : (1 ≤ l.length ∧ l.length ≤ 8 ∧ allK l = true) ∧ t.length ≤ 20 ∧ allK t = true ∧ 1 ≤ h ∧ h ≤ 4 := by
  unfold cluC at hc
  split at hc
  · rename_i h1; exact absurd hc h1
  · rename_i h1
    split at hc
    · omega
    · rename_i h2
      have h3 := not_or.1 h2
      have h4 := inB_true.1 (by simpa using h3.2 : inB h 1 4 = true)
      exact ⟨quoR_fits (by simpa using h1), by omega, badR_zero hc, h4.1, h4.2⟩
theorem makeN (h : Nat) (h1 : 1 ≤ h) (h4 : h ≤ 4) (W : World) : (Instr.makeSlice 30 (.int .i64 (h : Int)) (.int .i64 (h : Int))).run Try.prog W = .ok (.slice (some ⟨W.heap.size, 0, none⟩) h h) (W.alloc (.cells (nils h).toArray 22)) := by
  have h5 : h = 1 ∨ h = 2 ∨ h = 3 ∨ h = 4 := by omega
  rcases h5 with rfl | rfl | rfl | rfl
  all_goals
    show _ = _
    kernel_rfl
theorem nils_cell {W : World} {X h j : Nat} (hX : W.heap[X]? = some (.cells (nils h).toArray 22 (0, 0))) (hj : j < h) : W.cell? ⟨X, j, none⟩ = some (.slice none 0 0) := by
  unfold World.cell?
  rw [hX]
  simp [nils, hj]
theorem goodL_keys {l t : List Int} (h : allK l = true) : ∀ k ∈ goodL l t, inB k 1 999 = true := fun k hk => by
  unfold allK at h
  rw [List.all_eq_true] at h
  exact h k (List.mem_filter.1 hk).1

set_option maxHeartbeats 1000000 in
theorem iNewVoter_key (k : Int) (hk : inB k 1 999 = true) (w : World) : Calls Try.prog 26 #[.int .i64 k] w fun e w' => e = .returned (.agg #[.int .i64 0, .int .i64 0, .int .i64 0, .int .i64 0, .int .i64 0, .int .i64 0, .int .i64 0, .int .i64 k, .int .i64 0, .slice none 0 0]) ∧ Below w.heap.size w w' := by
  have hW1 : ∀ v, Calls Try.prog 43 #[.int .i64 k] v fun e w' => e = .returned (.bool true) ∧ w' = v := fun v => by rw [← hk]; exact isKey_any _ v
  clear hk
  go_enter Try.func26, Try.ntmps26
  go_wp2_with (go_at_call 43; refine (hW1 _).mono ?_; rintro e w' ⟨rfl, hw⟩; have hw2 := hw.symm; subst hw2)
  have hX := heap_alloc_new w (.cells #[.int .i64 0, .int .i64 0, .int .i64 0, .int .i64 0, .int .i64 0, .int .i64 0, .int .i64 0, .int .i64 k, .int .i64 0, .slice none 0 0] 65)
  obtain ⟨s0, s1, s2, s3, s4, s5, s6, s7, s8, s9⟩ := cells10V hX
  exact bodyPost_ret (v := .agg #[.int .i64 0, .int .i64 0, .int .i64 0, .int .i64 0, .int .i64 0, .int .i64 0, .int .i64 0, .int .i64 k, .int .i64 0, .slice none 0 0]) (by simp [results, Try.results26, go_sem, s0, s1, s2, s3, s4, s5, s6, s7, s8, s9]) rfl ⟨rfl, below_box _⟩

theorem fieldVR (a0 a1 a2 a3 a4 a5 a6 a7 a8 a9 : Value) (W : World) : (Instr.field 65 (.agg #[a0, a1, a2, a3, a4, a5, a6, a7, a8, a9]) 2).run Try.prog W = .ok (.agg #[a7, a8, a9]) W := by kernel_rfl

/-- The copy is laid into a block that was made ahead. -/
theorem cuC_set {w1 V W : World} {R h : Nat} {l t : List Int} {x : Int} {ka : Option Addr} {kc : Nat} {ba : Option Addr} {bc : Nat} {va : Option Addr} {vc : Nat} {ha : Option Addr} {hc : Nat} (HC : Hid (ClR true V.heap.size W l t [] h ka kc ba bc va vc ha hc)) (hV : w1.heap.size ≤ V.heap.size) (HB : Hid (Below w1.heap.size w1 W)) (HZ : Hid (W.heap[R]? = some (.cells #[.slice none 0 0, .int .i64 0, .slice none 0 0, .slice none 0 0, .slice none 0 0, .slice none 0 0, .slice none 0 0] 32 (0, 0)))) (hR1 : w1.heap.size ≤ R) :
    Hid (CuB true w1 (((((((W.setCell ⟨R, 0, none⟩ (.slice ka l.length kc)).setCell ⟨R, 1, none⟩ (.int .i64 x)).setCell ⟨R, 2, none⟩ (.slice ba t.length bc)).setCell ⟨R, 3, none⟩ (.slice none 0 0)).setCell ⟨R, 4, none⟩ (.slice va 0 vc)).setCell ⟨R, 5, none⟩ (.slice none 0 0)).setCell ⟨R, 6, none⟩ (.slice ha h hc)) R l x t [] h) :=
  ⟨hR1, below_set7V HB.out hR1 _ _ _ _ _ _ _, ka, kc, ba, bc, va, vc, ha, hc, set7V7 HZ.out _ _ _ _ _ _ _, (HC.out.set7 HZ.out neC1 neC2 neC3 _ _ _ _ _ _ _).low hV⟩
theorem cuC_new {w1 V W : World} {h : Nat} {l t : List Int} {x : Int} {ka : Option Addr} {kc : Nat} {ba : Option Addr} {bc : Nat} {va : Option Addr} {vc : Nat} {ha : Option Addr} {hc : Nat} (HC : Hid (ClR true V.heap.size W l t [] h ka kc ba bc va vc ha hc)) (hV : w1.heap.size ≤ V.heap.size) (HB : Hid (Below w1.heap.size w1 W)) :
    Hid (CuB true w1 (W.alloc (.cells #[.slice ka l.length kc, .int .i64 x, .slice ba t.length bc, .slice none 0 0, .slice va 0 vc, .slice none 0 0, .slice ha h hc] 32)) W.heap.size l x t [] h) :=
  ⟨HB.out.size, HB.out.trans ((below_box _).mono HB.out.size), ka, kc, ba, bc, va, vc, ha, hc, heap_alloc_new _ _, (HC.out.below (below_box _)).low hV⟩
/-- One more voter; another list of numbers stays. -/
theorem CuB.voter2 {ap : Bool} {w1 W : World} {R : Nat} {l : List Int} {x : Int} {t gs : List Int} {h : Nat} {ka : Option Addr} {kc : Nat} {ba : Option Addr} {bc : Nat} {va : Option Addr} {vc : Nat} {ha : Option Addr} {hc : Nat} (k : Int) (h1 : w1.heap.size ≤ R) (h2 : Below w1.heap.size w1 W) (h3 : W.heap[R]? = some (.cells #[.slice ka l.length kc, .int .i64 x, .slice ba t.length bc, .slice none 0 0, .slice va gs.length vc, .slice none 0 0, .slice ha h hc] 32 (0, 0))) (H : ClR ap w1.heap.size W l t gs h ka kc ba bc va vc ha hc) (hh : gs.length ≤ 100) {lo n : Nat} {v : Value} {xs : List Value} (HY : W.ownsRow lo 2 1 v n xs) :
    ∃ g cap w5, (Builtin.append_ #[28, 28] 28 #[.slice va gs.length vc, .slice (some ⟨W.heap.size, 0, none⟩) 1 1]).run Try.prog (W.alloc (.cells #[.int .i64 k, .int .i64 0, .slice none 0 0] 53)) = .ok (.slice (some ⟨g, 0, none⟩) (gs.length + 1) cap) w5 ∧
      Hid (w5.heap[R]? = some (.cells #[.slice ka l.length kc, .int .i64 x, .slice ba t.length bc, .slice none 0 0, .slice va gs.length vc, .slice none 0 0, .slice ha h hc] 32 (0, 0))) ∧ Hid (CuB ap w1 (w5.setCell ⟨R, 4, none⟩ (.slice (some ⟨g, 0, none⟩) (gs.length + 1) cap)) R l x t (gs ++ [k]) h) ∧ Hid ((w5.setCell ⟨R, 4, none⟩ (.slice (some ⟨g, 0, none⟩) (gs.length + 1) cap)).ownsRow lo 2 1 v n xs) := by
  have hb := below_box (w := W) (.cells #[.int .i64 k, .int .i64 0, .slice none 0 0] 53)
  have H2 := H.below hb
  have h4 := (keepb h3 hb).out
  have hb2 := h2.trans (hb.mono h2.size)
  obtain ⟨g, cap, w5, hrun, HO⟩ := voter_added (X := W.heap.size) H2.vts (heap_alloc_new _ _) (by omega) hb2.size
  obtain ⟨ho, hg⟩ := HO.out
  have h5 : w5.heap[R]? = some (.cells #[.slice ka l.length kc, .int .i64 x, .slice ba t.length bc, .slice none 0 0, .slice va gs.length vc, .slice none 0 0, .slice ha h hc] 32 (0, 0)) := (hg.block R (lt_of_block h4) (fun e => row_neV H2.vts h4 neC2 e.symm)).trans h4
  have el : (gs ++ [k]).length = gs.length + 1 := by simp
  have H5 : ClR ap w1.heap.size w5 l t (gs ++ [k]) h ka kc ba bc (some ⟨g, 0, none⟩) cap ha hc := ⟨H2.keys.kept hg (row_apart H2.keys H2.vts neV1), H2.bad.kept hg (row_apart H2.bad H2.vts neV1), H2.apart, by rw [el]; exact ho, H2.hrd.kept hg (row_apart H2.hrd H2.vts neV3)⟩
  have HY2 := (row_below HY hb).kept hg (row_apart (row_below HY hb) H2.vts neV1)
  refine ⟨g, cap, w5, hrun, h5, ⟨h1, (hb2.grown hg hb2.size (fun k hk => (H2.vts.lt k hk).1)).setCell (p := ⟨R, 4, none⟩) h1 _, ka, kc, ba, bc, some ⟨g, 0, none⟩, cap, ha, hc, ?_, H5.set1 h5 neC1 neC2 neC3 4 _⟩, ownsRow_setCell_other HY2 (a := ⟨R, 4, none⟩) (row_neV HY2 h5 neC1) _⟩
  have := Joins.block_setCell (i := 4) h5 (.slice (some ⟨g, 0, none⟩) (gs.length + 1) cap)
  rw [el]
  simpa using this

set_option maxRecDepth 20000 in
set_option maxHeartbeats 8000000 in
theorem iNewCluster_any (kb ko kc bb bo bc : Nat) (l t : List Int) (x hr : Int) (w : World) (hl : l.length ≤ 1048576) (ht : t.length ≤ 1048576) (hI : IAt w (some ⟨kb, ko, none⟩) l.length l) (hJ : IAt w (some ⟨bb, bo, none⟩) t.length t) :
    Calls Try.prog 8 #[.agg #[.slice (some ⟨kb, ko, none⟩) l.length kc, .int .i64 x], .slice (some ⟨bb, bo, none⟩) t.length bc, .int .i64 hr] w fun e w' => OutNc true w w' e (cluR l x t hr) := by
  obtain ⟨w0, hw0⟩ : ∃ W, W = (w.alloc (.cells #[.slice (some ⟨kb, ko, none⟩) l.length kc, .int .i64 x] 26)).alloc (.cells #[.int .i64 0, .slice none 0 0, .int .i64 0, .slice none 0 0, .slice none 0 0, .slice none 0 0, .slice none 0 0, .slice none 0 0] 34) := ⟨_, rfl⟩
  have HW0 : Hid (w0 = (w.alloc (.cells #[.slice (some ⟨kb, ko, none⟩) l.length kc, .int .i64 x] 26)).alloc (.cells #[.int .i64 0, .slice none 0 0, .int .i64 0, .slice none 0 0, .slice none 0 0, .slice none 0 0, .slice none 0 0, .slice none 0 0] 34)) := hw0
  have HBL : Hid (Below w.heap.size w w0) := by rw [hw0]; exact below_box2 _ _
  have HXB : Hid (w0.heap[w.heap.size]? = some (.cells #[.slice (some ⟨kb, ko, none⟩) l.length kc, .int .i64 x] 26 (0, 0))) := by rw [hw0]; exact block_at2
  have HXR : Hid (w0.heap[w.heap.size + 1]? = some (.cells #[.int .i64 0, .slice none 0 0, .int .i64 0, .slice none 0 0, .slice none 0 0, .slice none 0 0, .slice none 0 0, .slice none 0 0] 34 (0, 0))) := by rw [hw0]; exact heap_alloc_at _ _ _ (by simp)
  have HSZ : Hid (w0.heap.size = w.heap.size + 1 + 1) := by show _ = _; rw [hw0]; simp
  have hF := startFault_any l.length kc t.length bc _ _ l t x hr w0 hl ht (hI.below HBL.out (Nat.le_refl _)) (hJ.below HBL.out (Nat.le_refl _))
  have HI : Hid (IAt w0 (some ⟨kb, ko, none⟩) l.length l) := hI.below HBL.out (Nat.le_refl _)
  have HJ : Hid (IAt w0 (some ⟨bb, bo, none⟩) t.length t) := hJ.below HBL.out (Nat.le_refl _)
  obtain ⟨c, hc⟩ : ∃ c, c = cluC l x t hr := ⟨_, rfl⟩
  rw [← hc] at hF
  rw [hw0] at hF
  clear hI hJ hw0
  by_cases h0 : c = 0
  · subst h0
    have hR : cluR l x t hr = ⟨0, l, x, t, goodL l t, hr.toNat⟩ := by unfold cluR; rw [if_pos hc.symm]
    rw [hR]
    obtain ⟨⟨hl1, hl8, hkl⟩, ht20, hkt, hr1, hr4⟩ := cluC_zero hc.symm
    obtain ⟨h, rfl⟩ : ∃ h : Nat, hr = (h : Int) := ⟨hr.toNat, by omega⟩
    simp only [Int.toNat_natCast]
    obtain ⟨gl, hgl⟩ : ∃ gl, gl = goodL l t := ⟨_, rfl⟩
    have HGL : Hid (gl = goodL l t) := hgl
    rw [← hgl]
    have hh1 : 1 ≤ h := by omega
    have hh4 : h ≤ 4 := by omega
    have HKL : Hid (allK l = true) := hkl
    have HKT : Hid (allK t = true) := hkt
    clear hR hc hr1 hr4 hkl hkt hgl
    go_enter Try.func8, Try.ntmps8
    go_wp2_with (go_at_call 22; (with_reducible refine hF.mono ?_); clear hF; rintro e w1 ⟨rfl, hb1⟩; rw [← HW0.out] at hb1; have HW1 : Hid (Below w0.heap.size w0 w1) := hb1; have HB1w := keepb HXB.out hb1; obtain ⟨bx0, bx1⟩ := cells2 HB1w.out; have hbl := lt_of_block HB1w.out; have HX1 := keepb HXR.out hb1; clear hb1)
    have HI1 : Hid (IAt w1 (some ⟨kb, ko, none⟩) l.length l) := HI.out.below HW1.out (Nat.le_refl _)
    have HJ1 : Hid (IAt w1 (some ⟨bb, bo, none⟩) t.length t) := HJ.out.below HW1.out (Nat.le_refl _)
    have hmk := makeN h hh1 hh4
    have hCC : ∀ (V : World) (H : Nat), Below w1.heap.size w1 V → Hid (V.heap[H]? = some (.cells (nils h).toArray 22 (0, 0))) → Calls Try.prog 23 #[.agg #[.slice (some ⟨kb, ko, none⟩) l.length kc, .int .i64 x, .slice (some ⟨bb, bo, none⟩) t.length bc, .slice none 0 0, .slice none 0 0, .slice none 0 0, .slice (some ⟨H, 0, none⟩) h h]] V fun e w' => ∃ ka kc ba bc va vc ha hc, e = .returned (.agg #[.slice ka l.length kc, .int .i64 x, .slice ba t.length bc, .slice none 0 0, .slice va 0 vc, .slice none 0 0, .slice ha h hc]) ∧ Hid (ClR true V.heap.size w' l t [] h ka kc ba bc va vc ha hc) ∧ Hid (Below V.heap.size V w') ∧ Hid (Below w1.heap.size w1 w') := fun V H hV hN =>
      (copyC_any kb ko kc bb bo bc H h l t x V hl8 ht20 hh4 (HI1.out.below hV (Nat.le_refl _)) (HJ1.out.below hV (Nat.le_refl _)) (fun j hj => nils_cell hN.out hj) (lt_of_block hN.out)).mono fun _ _ ⟨ka, kc, ba, bc, va, vc, ha, hc, e, h1, h2⟩ => ⟨ka, kc, ba, bc, va, vc, ha, hc, e, h1, h2, hV.trans (h2.mono hV.size)⟩
    have dx0 : w1.drew.cell? ⟨w.heap.size, 0, none⟩ = some (.slice (some ⟨kb, ko, none⟩) l.length kc) := bx0
    have dx1 : w1.drew.cell? ⟨w.heap.size, 1, none⟩ = some (.int .i64 x) := bx1
    have ax0 : (w1.alloc (.cells #[.slice none 0 0, .int .i64 0, .slice none 0 0, .slice none 0 0, .slice none 0 0, .slice none 0 0, .slice none 0 0] 32)).drew.cell? ⟨w.heap.size, 0, none⟩ = some (.slice (some ⟨kb, ko, none⟩) l.length kc) := cell_newV bx0
    have ax1 : (w1.alloc (.cells #[.slice none 0 0, .int .i64 0, .slice none 0 0, .slice none 0 0, .slice none 0 0, .slice none 0 0, .slice none 0 0] 32)).drew.cell? ⟨w.heap.size, 1, none⟩ = some (.int .i64 x) := cell_newV bx1
    have dM : Below w1.heap.size w1 (w1.alloc (.cells (nils h).toArray 22)).drew := (below_box _).drew
    have HNM : Hid ((w1.alloc (.cells (nils h).toArray 22)).drew.heap[w1.heap.size]? = some (.cells (nils h).toArray 22 (0, 0))) := heap_alloc_new _ _
    have xM0 : (w1.alloc (.cells (nils h).toArray 22)).drew.cell? ⟨w.heap.size, 0, none⟩ = some (.slice (some ⟨kb, ko, none⟩) l.length kc) := cell_newV bx0
    have xM1 : (w1.alloc (.cells (nils h).toArray 22)).drew.cell? ⟨w.heap.size, 1, none⟩ = some (.int .i64 x) := cell_newV bx1
    have dAM : Below w1.heap.size w1 ((w1.alloc (.cells #[.slice none 0 0, .int .i64 0, .slice none 0 0, .slice none 0 0, .slice none 0 0, .slice none 0 0, .slice none 0 0] 32)).alloc (.cells (nils h).toArray 22)).drew := (below_box2 _ _).drew
    have HNAM : Hid (((w1.alloc (.cells #[.slice none 0 0, .int .i64 0, .slice none 0 0, .slice none 0 0, .slice none 0 0, .slice none 0 0, .slice none 0 0] 32)).alloc (.cells (nils h).toArray 22)).drew.heap[w1.heap.size + 1]? = some (.cells (nils h).toArray 22 (0, 0))) := heap_alloc_at _ _ _ (by simp)
    have HZAM : Hid (((w1.alloc (.cells #[.slice none 0 0, .int .i64 0, .slice none 0 0, .slice none 0 0, .slice none 0 0, .slice none 0 0, .slice none 0 0] 32)).alloc (.cells (nils h).toArray 22)).drew.heap[w1.heap.size]? = some (.cells #[.slice none 0 0, .int .i64 0, .slice none 0 0, .slice none 0 0, .slice none 0 0, .slice none 0 0, .slice none 0 0] 32 (0, 0))) := block_at2
    have xAM0 : ((w1.alloc (.cells #[.slice none 0 0, .int .i64 0, .slice none 0 0, .slice none 0 0, .slice none 0 0, .slice none 0 0, .slice none 0 0] 32)).alloc (.cells (nils h).toArray 22)).drew.cell? ⟨w.heap.size, 0, none⟩ = some (.slice (some ⟨kb, ko, none⟩) l.length kc) := cell_newV (cell_newV bx0)
    have xAM1 : ((w1.alloc (.cells #[.slice none 0 0, .int .i64 0, .slice none 0 0, .slice none 0 0, .slice none 0 0, .slice none 0 0, .slice none 0 0] 32)).alloc (.cells (nils h).toArray 22)).drew.cell? ⟨w.heap.size, 1, none⟩ = some (.int .i64 x) := cell_newV (cell_newV bx1)
    have dMA : Below w1.heap.size w1 ((w1.alloc (.cells (nils h).toArray 22)).alloc (.cells #[.slice none 0 0, .int .i64 0, .slice none 0 0, .slice none 0 0, .slice none 0 0, .slice none 0 0, .slice none 0 0] 32)).drew := (below_box2 _ _).drew
    have HNMA : Hid (((w1.alloc (.cells (nils h).toArray 22)).alloc (.cells #[.slice none 0 0, .int .i64 0, .slice none 0 0, .slice none 0 0, .slice none 0 0, .slice none 0 0, .slice none 0 0] 32)).drew.heap[w1.heap.size]? = some (.cells (nils h).toArray 22 (0, 0))) := block_at2
    have HZMA : Hid (((w1.alloc (.cells (nils h).toArray 22)).alloc (.cells #[.slice none 0 0, .int .i64 0, .slice none 0 0, .slice none 0 0, .slice none 0 0, .slice none 0 0, .slice none 0 0] 32)).drew.heap[w1.heap.size + 1]? = some (.cells #[.slice none 0 0, .int .i64 0, .slice none 0 0, .slice none 0 0, .slice none 0 0, .slice none 0 0, .slice none 0 0] 32 (0, 0))) := heap_alloc_at _ _ _ (by simp)
    have xMA0 : ((w1.alloc (.cells (nils h).toArray 22)).alloc (.cells #[.slice none 0 0, .int .i64 0, .slice none 0 0, .slice none 0 0, .slice none 0 0, .slice none 0 0, .slice none 0 0] 32)).drew.cell? ⟨w.heap.size, 0, none⟩ = some (.slice (some ⟨kb, ko, none⟩) l.length kc) := cell_newV (cell_newV bx0)
    have xMA1 : ((w1.alloc (.cells (nils h).toArray 22)).alloc (.cells #[.slice none 0 0, .int .i64 0, .slice none 0 0, .slice none 0 0, .slice none 0 0, .slice none 0 0, .slice none 0 0] 32)).drew.cell? ⟨w.heap.size, 1, none⟩ = some (.int .i64 x) := cell_newV (cell_newV bx1)
    go_cut [8] (fun s wc => ∃ R, s = .pointer (some ⟨R, 0, none⟩) ∧ Hid (CuB true w1 wc R l x t [] h))
    case first =>
      go_region_held3 (fun w' => w'.cell? ⟨w.heap.size, 0, none⟩ = some (.slice (some ⟨kb, ko, none⟩) l.length kc) ∧ w'.cell? ⟨w.heap.size, 1, none⟩ = some (.int .i64 x)) (first | (with_reducible exact ⟨dx0, dx1⟩) | (with_reducible exact ⟨ax0, ax1⟩) | (with_reducible exact ⟨xM0, xM1⟩) | (with_reducible exact ⟨xAM0, xAM1⟩) | (with_reducible exact ⟨xMA0, xMA1⟩) | (with_reducible exact ⟨s0, s1⟩) | (with_reducible exact ⟨cell_newV s0, cell_newV s1⟩) | (simp only [farR]; with_reducible exact ⟨s0, s1⟩) | go_keep)
        (first
          | (go_at_call 23; (first
            | ((with_reducible refine (hCC (w1.alloc (.cells (nils h).toArray 22)).drew (w1.heap.size) dM HNM).mono ?_); rintro e u1 ⟨ka, kc, ba, bc, va, vc, ha, hc, rfl, HCL, HB1, HBB⟩; have s0 := (HBB.out.cell (p := ⟨w.heap.size, 0, none⟩) hbl).trans bx0; have s1 := (HBB.out.cell (p := ⟨w.heap.size, 1, none⟩) hbl).trans bx1;)
            | ((with_reducible refine (hCC ((w1.alloc (.cells #[.slice none 0 0, .int .i64 0, .slice none 0 0, .slice none 0 0, .slice none 0 0, .slice none 0 0, .slice none 0 0] 32)).alloc (.cells (nils h).toArray 22)).drew (w1.heap.size + 1) dAM HNAM).mono ?_); rintro e u1 ⟨ka, kc, ba, bc, va, vc, ha, hc, rfl, HCL, HB1, HBB⟩; have s0 := (HBB.out.cell (p := ⟨w.heap.size, 0, none⟩) hbl).trans bx0; have s1 := (HBB.out.cell (p := ⟨w.heap.size, 1, none⟩) hbl).trans bx1; have HZ := keepb HZAM.out HB1.out; obtain ⟨y0, y1, y2, y3, y4, y5, y6⟩ := cells7V HZ.out; have f0 := Joins.unfrozen_of_block HZ.out 0; have f1 := Joins.unfrozen_of_block HZ.out 1; have f2 := Joins.unfrozen_of_block HZ.out 2; have f3 := Joins.unfrozen_of_block HZ.out 3; have f4 := Joins.unfrozen_of_block HZ.out 4; have f5 := Joins.unfrozen_of_block HZ.out 5; have f6 := Joins.unfrozen_of_block HZ.out 6; have farR : ∀ (V : World) (i j : Nat) (u : Value), (V.setCell ⟨w1.heap.size, i, none⟩ u).cell? ⟨w.heap.size, j, none⟩ = V.cell? ⟨w.heap.size, j, none⟩ := fun V i j u => World.cell?_setCell_far V _ _ u (show w1.heap.size ≠ w.heap.size by omega))
            | ((with_reducible refine (hCC ((w1.alloc (.cells (nils h).toArray 22)).alloc (.cells #[.slice none 0 0, .int .i64 0, .slice none 0 0, .slice none 0 0, .slice none 0 0, .slice none 0 0, .slice none 0 0] 32)).drew (w1.heap.size) dMA HNMA).mono ?_); rintro e u1 ⟨ka, kc, ba, bc, va, vc, ha, hc, rfl, HCL, HB1, HBB⟩; have s0 := (HBB.out.cell (p := ⟨w.heap.size, 0, none⟩) hbl).trans bx0; have s1 := (HBB.out.cell (p := ⟨w.heap.size, 1, none⟩) hbl).trans bx1; have HZ := keepb HZMA.out HB1.out; obtain ⟨y0, y1, y2, y3, y4, y5, y6⟩ := cells7V HZ.out; have f0 := Joins.unfrozen_of_block HZ.out 0; have f1 := Joins.unfrozen_of_block HZ.out 1; have f2 := Joins.unfrozen_of_block HZ.out 2; have f3 := Joins.unfrozen_of_block HZ.out 3; have f4 := Joins.unfrozen_of_block HZ.out 4; have f5 := Joins.unfrozen_of_block HZ.out 5; have f6 := Joins.unfrozen_of_block HZ.out 6; have farR : ∀ (V : World) (i j : Nat) (u : Value), (V.setCell ⟨w1.heap.size + 1, i, none⟩ u).cell? ⟨w.heap.size, j, none⟩ = V.cell? ⟨w.heap.size, j, none⟩ := fun V i j u => World.cell?_setCell_far V _ _ u (show w1.heap.size + 1 ≠ w.heap.size by omega)))))
      all_goals
        go_wp2
        go_meet
        first
          | (have hz := HZ; refine ⟨_, rfl, ?_⟩; with_reducible exact cuC_set HCL (dAM.size) HBB hz (Nat.le_refl _))
          | (have hz := HZ; refine ⟨_, rfl, ?_⟩; with_reducible exact cuC_set HCL (dMA.size) HBB hz (Nat.le_succ _))
          | (refine ⟨_, rfl, ?_⟩; with_reducible exact cuC_new HCL (dM.size) HBB)
    case rest =>
      obtain ⟨R, hs, HS⟩ := hcut
      subst hs
      clear dx0 dx1 ax0 ax1 dM HNM xM0 xM1 dAM HNAM xAM0 xAM1 dMA HNMA xMA0 xMA1 HZAM HZMA hCC hmk
      have hbc : Below w1.heap.size w1 wc := HS.out.2.1
      have q0 := (hbc.cell (p := ⟨w.heap.size, 0, none⟩) hbl).trans bx0
      have q1 := (hbc.cell (p := ⟨w.heap.size, 1, none⟩) hbl).trans bx1
      have hblc : w.heap.size < wc.heap.size := Nat.lt_of_lt_of_le hbl hbc.size
      have HbK : Hid (Calls Try.prog 25 #[.slice (some ⟨bb, bo, none⟩) t.length bc] wc.drew fun e w' => ∃ B, e = .returned (.map (some B)) ∧ Hid (Bks w' B t) ∧ Hid (Below wc.heap.size wc w')) := (badKeysOf_any t.length bc _ t wc.drew ht20 ((HJ1.out.below hbc (Nat.le_refl _)).below (Below.refl _ _).drew (Nat.le_refl _)) HKT.out).mono fun _ _ ⟨B, e, _, h1, h2⟩ => ⟨B, e, h1, (Below.refl _ _).drew.trans h2⟩
      have hbK := HbK.out
      have HgK : Hid (∀ V B, Below wc.heap.size wc V → Bks V B t → Calls Try.prog 24 #[.agg #[.slice (some ⟨kb, ko, none⟩) l.length kc, .int .i64 x], .map (some B)] V fun e w' => ∃ va vc, e = .returned (.slice va (goodL l t).length vc) ∧ Hid (w'.ownsRow 0 2 1 (.slice va (goodL l t).length vc) (goodL l t).length (ints (goodL l t))) ∧ Hid (Below wc.heap.size wc w')) := fun V B hV hB =>
        (goodKeys_any kb ko l.length kc B l t x V hl8 ((HI1.out.below hbc (Nat.le_refl _)).below hV (Nat.le_refl _)) HKL.out hB).mono fun _ _ ⟨va, vc, e, h1, h2⟩ => ⟨va, vc, e, Joins.ownsRow_le h1 (Nat.zero_le _), hV.trans (h2.mono hV.size)⟩
      rw [← HGL.out] at HgK
      clear bx0 bx1 HbK hbc
      go_wp2
      go_region_held3 (fun w' => w'.cell? ⟨w.heap.size, 0, none⟩ = some (.slice (some ⟨kb, ko, none⟩) l.length kc) ∧ w'.cell? ⟨w.heap.size, 1, none⟩ = some (.int .i64 x)) (first | (with_reducible exact ⟨q0, q1⟩) | (with_reducible exact ⟨s0, s1⟩) | (with_reducible exact ⟨z0, z1⟩) | go_keep)
        (first
          | (go_at_call 25; (with_reducible refine hbK.mono ?_); rintro e u1 ⟨B, rfl, HBk, HB1⟩; have s0 := (HB1.out.cell (p := ⟨w.heap.size, 0, none⟩) hblc).trans q0; have s1 := (HB1.out.cell (p := ⟨w.heap.size, 1, none⟩) hblc).trans q1; have hgK := HgK.out u1 B HB1.out HBk.out)
          | (go_at_call 24; (with_reducible refine hgK.mono ?_); rintro e u2 ⟨ga, gc, rfl, HGR, HB2⟩; have z0 := (HB2.out.cell (p := ⟨w.heap.size, 0, none⟩) hblc).trans q0; have z1 := (HB2.out.cell (p := ⟨w.heap.size, 1, none⟩) hblc).trans q1))
      have HS2 : Hid (CuB true w1 u2 R l x t [] h) := HS.out.step HB2.out
      have hg8 : gl.length ≤ 8 := by rw [HGL.out]; exact Nat.le_trans (good_le l t) hl8
      clear q0 q1 z0 z1 s0 s1 hbK hgK HgK HBk HB1 HS HB2
      go_wp2
      go_loopw [30] (fun i wr => ∃ j : Nat, j ≤ gl.length ∧ i = .int .i64 j ∧ Hid (CuB true w1 wr R l x t (gl.take j) h) ∧ Hid (wr.ownsRow 0 2 1 (.slice ga gl.length gc) gl.length (ints gl))) (fun i _ => gl.length - (intOf i).toNat)
      case atStart => exact ⟨0, Nat.zero_le _, rfl, HS2, HGR⟩
      case round =>
        obtain ⟨j, hj, rfl, HC, HG⟩ := hrel
        obtain ⟨h1, h2, ka, kc, ba, bc, va, vc, ha, hc, h3, h4⟩ := HC.out
        by_cases hlt : j < gl.length
        · obtain ⟨k, hk⟩ : ∃ k, k = gl.getD j 0 := ⟨_, rfl⟩
          rcases (IAt.owned HG.out rfl).2 with h00 | ⟨b0, o0, e0, l0, d0⟩
          · omega
          subst e0
          have x0 := d0 j hlt
          rw [← hk] at x0
          have HT : Hid (gl.take (j + 1) = gl.take j ++ [k]) := take_next rfl hlt hk
          have hkk : inB k 1 999 = true := goodL_keys (l := l) (t := t) HKL.out k (by rw [← HGL.out]; exact mem_hit rfl hlt hk rfl)
          have HcI : Hid (Calls Try.prog 26 #[.int .i64 k] wr.drew fun e w' => e = .returned (.agg #[.int .i64 0, .int .i64 0, .int .i64 0, .int .i64 0, .int .i64 0, .int .i64 0, .int .i64 0, .int .i64 k, .int .i64 0, .slice none 0 0]) ∧ Below wr.heap.size wr w') := (iNewVoter_key k hkk wr.drew).mono fun _ _ ⟨e, h1⟩ => ⟨e, (Below.refl _ _).drew.trans h1⟩
          have hcI := HcI.out
          obtain ⟨g0, hg0⟩ : ∃ g0, g0 = gl.take j := ⟨_, rfl⟩
          have HGL0 : Hid (g0.length = j) := by show _ = _; rw [hg0, List.length_take]; omega
          have hfv := fieldVR
          rw [← hg0] at h3 h4 HT
          obtain ⟨p0, p1, p2, p3, p4, p5, p6⟩ := cells7V h3
          have hki : (j : Int) < (gl.length : Int) := by omega
          have H3 : Hid (wr.heap[R]? = some (.cells #[.slice ka l.length kc, .int .i64 x, .slice ba t.length bc, .slice none 0 0, .slice va g0.length vc, .slice none 0 0, .slice ha h hc] 32 (0, 0))) := h3
          have H4 : Hid (ClR true w1.heap.size wr l t g0 h ka kc ba bc va vc ha hc) := h4
          have H2 : Hid (Below w1.heap.size w1 wr) := h2
          clear h3 h4 h2 HC HcI p0 p1 p2 p3 p5 p6 d0 hk hkk hg0
          go_wp2
          go_region_law (first
            | (refine step_append_runZ (by rfl) (.tmp 35) (.tmp 39) 28 (by rfl) (v := .slice va g0.length vc) (u := .slice (some ⟨u1.heap.size, 0, none⟩) 1 1) (v' := .slice (some ⟨g, 0, none⟩) (g0.length + 1) cap) (w' := w5) (by rfl) (by rfl) ?_ ?_; (with_reducible exact hrun))
            | (go_simp; go_at_call 26; (with_reducible refine hcI.mono ?_); rintro e u1 ⟨rfl, hb1⟩; have HU3 := keepb H3.out hb1; obtain ⟨g, cap, w5, hrun, HB5, HC5, HG5⟩ := CuB.voter2 k h1 (H2.out.trans (hb1.mono H2.out.size)) HU3.out (H4.out.below hb1) (by have := HGL0.out; omega) (row_below HG.out hb1); obtain ⟨e0, e1, e2, e3, t4, e5, e6⟩ := cells7V HU3.out; have tb := cell_newV (o := .cells #[.int .i64 k, .int .i64 0, .slice none 0 0] 53) t4; obtain ⟨l0, l1, l2, l3, l4, l5, l6⟩ := cells7V HB5.out; have gz := Joins.unfrozen_of_block HB5.out 4; clear e0 e1 e2 e3 e5 e6 l0 l1 l2 l3 l5 l6 hb1))
          all_goals
            go_wp2
            go_roundw
            case rel => exact ⟨j + 1, by omega, by go_num, by rw [HT.out]; exact HC5, HG5⟩
            case measure => simp [intOf]; omega
        · have HTF : Hid (gl.take j = gl) := List.take_of_length_le (by omega)
          rw [HTF.out] at h3 h4
          obtain ⟨p0, p1, p2, p3, p4, p5, p6⟩ := cells7V h3
          have HR0 := (h2.block _ (lt_of_block HX1.out)).trans HX1.out
          obtain ⟨y0, y1, y2, y3, y4, y5, y6, y7⟩ := cells8V HR0
          have f0 := Joins.unfrozen_of_block HR0 0
          have f1 := Joins.unfrozen_of_block HR0 1
          have f2 := Joins.unfrozen_of_block HR0 2
          have f3 := Joins.unfrozen_of_block HR0 3
          have f4 := Joins.unfrozen_of_block HR0 4
          have f5 := Joins.unfrozen_of_block HR0 5
          have f6 := Joins.unfrozen_of_block HR0 6
          have f7 := Joins.unfrozen_of_block HR0 7
          have hki : ¬ (j : Int) < (gl.length : Int) := by omega
          have HR1 : Hid (wr.heap[w.heap.size + 1]? = some (.cells #[.int .i64 0, .slice none 0 0, .int .i64 0, .slice none 0 0, .slice none 0 0, .slice none 0 0, .slice none 0 0, .slice none 0 0] 34 (0, 0))) := HR0
          have H4 : Hid (ClR true w1.heap.size wr l t gl h ka kc ba bc va vc ha hc) := h4
          have H2 : Hid (Below w1.heap.size w1 wr) := h2
          clear HR0 h3 h4 h2 HC
          go_wp2
          obtain ⟨s0, s1, s2, s3, s4, s5, s6, s7⟩ := cells8V (set8V8 HR1.out (.int .i64 0) (.slice ka l.length kc) (.int .i64 x) (.slice ba t.length bc) (.slice none 0 0) (.slice va gl.length vc) (.slice none 0 0) (.slice ha h hc))
          have hw01 : w0.heap.size ≤ w1.heap.size := HW1.out.size
          have hsz0 := HSZ.out
          refine bodyPost_ret (v := .agg #[.int .i64 0, .slice ka l.length kc, .int .i64 x, .slice ba t.length bc, .slice none 0 0, .slice va gl.length vc, .slice none 0 0, .slice ha h hc]) (by simp [results, Try.results8, go_sem, s0, s1, s2, s3, s4, s5, s6, s7]) rfl ⟨ka, kc, ba, bc, va, vc, ha, hc, rfl, ?_, ?_⟩
          · exact (H4.out.set8 HR1.out neR1 neR2 neR3 _ _ _ _ _ _ _ _).low (by omega)
          · exact below_set8V (HBL.out.trans ((HW1.out.trans (H2.out.mono HW1.out.size)).mono HBL.out.size)) (by omega) _ _ _ _ _ _ _ _
  · have hR : cluR l x t hr = ⟨c, [], 0, [], [], 0⟩ := by unfold cluR; rw [if_neg (by rw [← hc]; exact h0), ← hc]
    rw [hR]
    have hc0 : (c == 0) = false := by simpa using h0
    clear hR hc h0
    go_enter Try.func8, Try.ntmps8
    go_wp2_with (go_at_call 22; (with_reducible refine hF.mono ?_); clear hF; rintro e w1 ⟨rfl, hb1⟩; rw [← HW0.out] at hb1; have HW1 : Hid (Below w0.heap.size w0 w1) := hb1; have HX1 := keepb HXR.out hb1; obtain ⟨y0, y1, y2, y3, y4, y5, y6, y7⟩ := cells8V HX1.out; have f0 := Joins.unfrozen_of_block HX1.out 0; have f1 := Joins.unfrozen_of_block HX1.out 1; have f2 := Joins.unfrozen_of_block HX1.out 2; have f3 := Joins.unfrozen_of_block HX1.out 3; have f4 := Joins.unfrozen_of_block HX1.out 4; have f5 := Joins.unfrozen_of_block HX1.out 5; have f6 := Joins.unfrozen_of_block HX1.out 6; have f7 := Joins.unfrozen_of_block HX1.out 7; clear hb1)
    obtain ⟨s0, s1, s2, s3, s4, s5, s6, s7⟩ := cells8V (set8V8 HX1.out (.int .i64 c) (.slice none 0 0) (.int .i64 0) (.slice none 0 0) (.slice none 0 0) (.slice none 0 0) (.slice none 0 0) (.slice none 0 0))
    refine bodyPost_ret (v := .agg #[.int .i64 c, .slice none 0 0, .int .i64 0, .slice none 0 0, .slice none 0 0, .slice none 0 0, .slice none 0 0, .slice none 0 0]) (by simp [results, Try.results8, go_sem, s0, s1, s2, s3, s4, s5, s6, s7]) rfl ⟨none, 0, none, 0, none, 0, none, 0, rfl, ClR.nil _ _ _, ?_⟩
    have hsz0 := HSZ.out
    exact below_set8V (HBL.out.trans (HW1.out.mono HBL.out.size)) (by omega) _ _ _ _ _ _ _ _

end Go.Proofs.Ytmnahhojfcigmaa
