/- A block's text: the program's. -/
import Derived.Test.YtlacmcedpphphaaDoorFg
import Derived.Test.YtlacmcedpphphaaDoorFd
import Derived.Test.YtlacmcedpphphaaDoorTtX
import Derived.Test.YtlacmcedpphphaaDoorITx
import Derived.Test.YtlacmcedpphphaaDoorTtS
import Derived.Test.YtlacmcedpphphaaDoorRu
import Derived.Test.YtlacmcedpphphaaDoorCp
import Derived.Test.YtlacmcedpphphaaDoorRtI
import Derived.Test.YtlacmcedpphphaaDoorIdOf
import Derived.Test.YtlacmcedpphphaaDoorOp
import Derived.Deep.Slices
import Derived.Lib.SplitLaws
namespace Go.Proofs.YtlacmcedpphphaaDoor
open Go.RowKit Go.Shelf Go.Maps Go.WideMaps

set_option maxRecDepth 20000 in
set_option maxHeartbeats 2000000 in
theorem writeTxs_any (n c : Nat) (a : Option Addr) (l : List Int) (w : World) (hn : n ≤ 6) (hk : ∀ k ∈ l, 1 ≤ k ∧ k ≤ 60) (hI : IAt w a n l) (hTb : Tb w) :
    Calls Tryd.prog 23 #[.slice a n c] w fun e w' => e = .returned (.string (str (txsT l))) ∧ Below w.heap.size w w' := by
  by_cases h0 : n = 0
  · subst h0
    obtain rfl : l = [] := List.length_eq_zero_iff.1 hI.1
    clear hI hTb hk
    go_enter Tryd.func23, Tryd.ntmps23
    go_wp2
    go_ret
    exact ⟨rfl, Below.refl _ _⟩
  · have hne : l ≠ [] := fun e => by have := hI.1; rw [e] at this; simp at this; omega
    have e1 : txsT l = plusT l := by unfold txsT; rw [if_neg hne]
    rw [e1]
    obtain ⟨s, hs⟩ : ∃ s, s = str (plusT l) := ⟨_, rfl⟩
    have hbx : Below w.heap.size w (w.alloc (.cells #[.slice a n c] 25)) := below_box _
    have hJ := joinPlus_any w.heap.size n c a l w (w.alloc (.cells #[.slice a n c] 25)) hn (fun k h => by have := hk k h; omega) hI hbx (by simp) (new1 w (.slice a n c) 25).1 (hTb.below hbx (Nat.le_refl _))
    rw [← hs] at hJ ⊢
    have HB : Hid (Below w.heap.size w (w.alloc (.cells #[.slice a n c] 25))) := hbx
    have hnz : ((n : Int) == 0) = false := by simp; omega
    have hnn : (n == 0) = false := by simp; omega
    clear hs e1 hne hI hTb hk hbx
    go_enter Tryd.func23, Tryd.ntmps23
    go_wp2_with (first
      | (go_at_call 39; refine (iValues_any _ _ _ _).mono ?_; rintro e w' ⟨rfl, hw⟩; subst hw)
      | (go_at_call 38; refine hJ.mono ?_; clear hJ; rintro e w2 ⟨rfl, hb2⟩; have HB2 : Hid (Below w.heap.size w w2) := HB.out.trans (hb2.mono HB.out.size); clear hb2))
    go_ret
    exact ⟨rfl, HB2.out⟩

theorem own_five (w : World) (s0 s1 s2 s3 s4 : ByteArray) {base : Nat} (hb : base ≤ w.heap.size) : (w.alloc (.cells #[.string s0, .string s1, .string s2, .string s3, .string s4] 9)).ownsRow base 9 1 (.slice (some ⟨w.heap.size, 0, none⟩) 5 5) 5 [.string s0, .string s1, .string s2, .string s3, .string s4] :=
  ⟨rfl, .inr ⟨w.heap.size, 5, #[.string s0, .string s1, .string s2, .string s3, .string s4], rfl, hb, heap_alloc_new _ _, by omega, by unfold maxLen; omega, rfl, rfl⟩⟩
/-- What is wanted of a world in which a block lies boxed beside a result. -/
structure BT2 (w v : World) (p h m : Int) (a : Option Addr) (n c : Nat) : Prop where
  box : v.heap[w.heap.size]? = some (.cells #[.int .i64 p, .int .i64 h, .int .i64 m, .slice a n c] 27 (0, 0))
  res : v.heap[w.heap.size + 1]? = some (.cells #[.int .i64 0, .string ByteArray.empty] 32 (0, 0))
  bel : Below w.heap.size w v
theorem BT2.step {w v v' : World} {p h m : Int} {a : Option Addr} {n c : Nat} (H : BT2 w v p h m a n c) (hb : Below v.heap.size v v') : BT2 w v' p h m a n c := ⟨(keepb H.box hb).out, (keepb H.res hb).out, H.bel.trans (hb.mono H.bel.size)⟩
theorem BT2.cells {w v : World} {p h m : Int} {a : Option Addr} {n c : Nat} (H : BT2 w v p h m a n c) : v.cell? ⟨w.heap.size, 0, none⟩ = some (.int .i64 p) ∧ v.cell? ⟨w.heap.size, 1, none⟩ = some (.int .i64 h) ∧ v.cell? ⟨w.heap.size, 2, none⟩ = some (.int .i64 m) ∧ v.cell? ⟨w.heap.size, 3, none⟩ = some (.slice a n c) := by
  obtain ⟨x0, x1, x2, x3, _⟩ := cells4 H.box
  exact ⟨x0, x1, x2, x3⟩

set_option maxRecDepth 20000 in
set_option maxHeartbeats 4000000 in
theorem iBlockText_any (n c : Nat) (a : Option Addr) (p h m : Int) (l : List Int) (w : World) (hn : n ≤ 1048576) (hc1 : n ≤ c) (hc2 : c ≤ maxLen) (hI : IAt w a n l) (hTb : Tb w) :
    Calls Tryd.prog 7 #[.agg #[.int .i64 p, .int .i64 h, .int .i64 m, .slice a n c]] w fun e w' => e = .returned (.agg #[.int .i64 (btR p h m l).1, .string (str (btR p h m l).2)]) ∧ Below w.heap.size w w' := by
  have hX0 : BT2 w ((w.alloc (.cells #[.int .i64 p, .int .i64 h, .int .i64 m, .slice a n c] 27)).alloc (.cells #[.int .i64 0, .string ByteArray.empty] 32)) p h m a n c := ⟨block_at2, heap_alloc_at _ _ _ (by simp), below_box2 _ _⟩
  have hF := iBlockFault_any n c a p h m l _ hn hc1 hc2 (hI.below hX0.bel (Nat.le_refl _))
  have HX0 := show Hid (BT2 w ((w.alloc (.cells #[.int .i64 p, .int .i64 h, .int .i64 m, .slice a n c] 27)).alloc (.cells #[.int .i64 0, .string ByteArray.empty] 32)) p h m a n c) from hX0
  have HI : Hid (IAt w a n l) := hI
  have HTB : Hid (Tb w) := hTb
  obtain ⟨cd, hcd⟩ : ∃ c, c = blR p h m l := ⟨_, rfl⟩
  rw [← hcd] at hF
  clear hX0 hI hTb
  by_cases hz : cd = 0
  · subst hz
    have hr : btR p h m l = (0, blT p h m l) := by unfold btR; rw [← hcd, if_neg (by simp)]
    rw [hr]
    have hok := bl_ok hcd.symm
    have hn6 : n ≤ 6 := by rw [← HI.out.1]; exact hok.n
    obtain ⟨s, hs⟩ : ∃ s, s = str (blT p h m l) := ⟨_, rfl⟩
    obtain ⟨d1, hd1⟩ : ∃ s, s = str (dec p) := ⟨_, rfl⟩
    obtain ⟨d2, hd2⟩ : ∃ s, s = str (dec h) := ⟨_, rfl⟩
    obtain ⟨d3, hd3⟩ : ∃ s, s = str (dec m) := ⟨_, rfl⟩
    obtain ⟨d4, hd4⟩ : ∃ s, s = str (txsT l) := ⟨_, rfl⟩
    have HA : Hid (∀ v, Below w.heap.size w v → Calls Tryd.prog 22 #[.int .i64 p] v fun e w' => e = .returned (.string d1) ∧ Below v.heap.size v w') := fun v hv => by
      rw [hd1]; exact writeNumber_any hok.p.1 (by have := hok.p; omega) v (HTB.out.below hv (Nat.le_refl _))
    have HB : Hid (∀ v, Below w.heap.size w v → Calls Tryd.prog 22 #[.int .i64 h] v fun e w' => e = .returned (.string d2) ∧ Below v.heap.size v w') := fun v hv => by
      rw [hd2]; exact writeNumber_any (by have := hok.h; omega) (by have := hok.h; omega) v (HTB.out.below hv (Nat.le_refl _))
    have HC : Hid (∀ v, Below w.heap.size w v → Calls Tryd.prog 22 #[.int .i64 m] v fun e w' => e = .returned (.string d3) ∧ Below v.heap.size v w') := fun v hv => by
      rw [hd3]; exact writeNumber_any (by have := hok.m; omega) hok.m.2 v (HTB.out.below hv (Nat.le_refl _))
    have HD : Hid (∀ v, Below w.heap.size w v → Calls Tryd.prog 23 #[.slice a n c] v fun e w' => e = .returned (.string d4) ∧ Below v.heap.size v w') := fun v hv => by
      rw [hd4]; exact writeTxs_any n c a l v hn6 hok.t (HI.out.below hv (Nat.le_refl _)) (HTB.out.below hv (Nat.le_refl _))
    have HJ : Hid (∀ v, Calls Tryd.prog 24 #[.slice (some ⟨v.heap.size, 0, none⟩) 5 5, .string ⟨#[32]⟩] (v.alloc (.cells #[.string ⟨#[98, 108, 111, 99, 107]⟩, .string d1, .string d2, .string d3, .string d4] 9)) fun e w' => e = .returned (.string s) ∧ Below v.heap.size v w') := fun v => by
      have := join_any 32 (.slice (some ⟨v.heap.size, 0, none⟩) 5 5) (v.alloc (.cells #[.string ⟨#[98, 108, 111, 99, 107]⟩, .string d1, .string d2, .string d3, .string d4] 9)) (ls := [[98, 108, 111, 99, 107], dec p, dec h, dec m, txsT l]) (base := v.heap.size) (by rw [hd1, hd2, hd3, hd4]; exact own_five v _ _ _ _ _ (Nat.le_refl _)) rfl (by simp) (by rw [join_block]; have := bl_len hok; omega)
      rw [join_block, ← hs] at this
      exact this.mono fun e w' ⟨h1, h2⟩ => ⟨h1, (below_box _).trans (h2.mono (by simp))⟩
    simp only
    rw [← hs]
    clear hr hcd hs hok hn6 hd1 hd2 hd3 hd4
    go_enter Tryd.func7, Tryd.ntmps7
    go_wp2_with (first
      | (go_at_call 11; refine hF.mono ?_; clear hF; rintro e w2 ⟨rfl, hb2⟩; have HX2 : Hid (BT2 w w2 p h m a n c) := HX0.out.step hb2; clear hb2))
    obtain ⟨x0, x1, x2, x3⟩ := HX2.out.cells
    have hl := lt_of_block HX2.out.box
    have bd : Below w.heap.size w w2.drew := HX2.out.bel.drew
    have hA := HA.out w2.drew bd
    go_region_held3 (fun w' => w'.cell? ⟨w.heap.size, 0, none⟩ = some (.int .i64 p) ∧ w'.cell? ⟨w.heap.size, 1, none⟩ = some (.int .i64 h) ∧ w'.cell? ⟨w.heap.size, 2, none⟩ = some (.int .i64 m) ∧ w'.cell? ⟨w.heap.size, 3, none⟩ = some (.slice a n c)) (first | go_keep | exact ⟨kept1 _ t0, kept1 _ t1, kept1 _ t2, kept1 _ t3⟩)
      (first
        | (go_at_call 22; (first
            | (have hq := hA; (with_reducible refine hq.mono ?_); clear hA hq; rintro e w3 ⟨rfl, hb3⟩; have HX3 : Hid (BT2 w w3 p h m a n c) := (HX2.out.step (Below.refl _ _).drew).step hb3; obtain ⟨z0, z1, z2, z3⟩ := HX3.out.cells; have hB := HB.out w3 HX3.out.bel)
            | (have hq := hB; (with_reducible refine hq.mono ?_); clear hB hq; rintro e w4 ⟨rfl, hb4⟩; have HX4 : Hid (BT2 w w4 p h m a n c) := HX3.out.step hb4; obtain ⟨y0, y1, y2, y3⟩ := HX4.out.cells; have hC := HC.out w4 HX4.out.bel)
            | (have hq := hC; (with_reducible refine hq.mono ?_); clear hC hq; rintro e w5 ⟨rfl, hb5⟩; have HX5 : Hid (BT2 w w5 p h m a n c) := HX4.out.step hb5; obtain ⟨v0, v1, v2, v3⟩ := HX5.out.cells; have hD := HD.out w5 HX5.out.bel)))
        | (go_at_call 23; have hq := hD; (with_reducible refine hq.mono ?_); clear hD hq; rintro e w6 ⟨rfl, hb6⟩; have HX6 : Hid (BT2 w w6 p h m a n c) := HX5.out.step hb6; obtain ⟨t0, t1, t2, t3⟩ := HX6.out.cells))
    have hJ := HJ.out w6
    go_wp2_with (first
      | (go_at_call 24; refine hJ.mono ?_; clear hJ; rintro e w7 ⟨rfl, hb7⟩; have HX7 : Hid (BT2 w w7 p h m a n c) := HX6.out.step hb7; obtain ⟨u0, u1⟩ := cells2 HX7.out.res; have f0 := Joins.unfrozen_of_block HX7.out.res 0; have f1 := Joins.unfrozen_of_block HX7.out.res 1))
    obtain ⟨s0, s1, s2⟩ := two_set HX7.out.res (.int .i64 0) (.string s)
    exact bodyPost_ret (v := .agg #[.int .i64 0, .string s]) (by simp [results, Tryd.results7, go_sem, s0, s1]) rfl ⟨rfl, below_res HX7.out.bel _ _⟩
  · have hr : btR p h m l = (cd, []) := by unfold btR; rw [← hcd, if_pos hz]
    rw [hr]
    clear hr hcd
    go_enter Tryd.func7, Tryd.ntmps7
    go_wp2_with (first
      | (go_at_call 11; refine hF.mono ?_; clear hF; rintro e w2 ⟨rfl, hb2⟩; have HX2 : Hid (BT2 w w2 p h m a n c) := HX0.out.step hb2; obtain ⟨u0, u1⟩ := cells2 HX2.out.res; have f0 := Joins.unfrozen_of_block HX2.out.res 0; have f1 := Joins.unfrozen_of_block HX2.out.res 1; clear hb2))
    obtain ⟨s0, s1, s2⟩ := two_set HX2.out.res (.int .i64 cd) (.string ⟨#[]⟩)
    exact bodyPost_ret (v := .agg #[.int .i64 cd, .string ⟨#[]⟩]) (by simp [results, Tryd.results7, go_sem, s0, s1]) rfl ⟨rfl, below_res HX2.out.bel _ _⟩

end Go.Proofs.YtlacmcedpphphaaDoor
