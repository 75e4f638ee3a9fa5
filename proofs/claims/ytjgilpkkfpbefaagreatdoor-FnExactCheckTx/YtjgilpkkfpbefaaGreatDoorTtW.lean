/- The program's words of a transaction. -/
import Derived.Test.YtjgilpkkfpbefaaGreatDoorTtU
import Derived.Test.YtjgilpkkfpbefaaGreatDoorTtR
import Derived.Lib.QuietBelow
import Derived.BigQuiet
namespace Go.Proofs.YtjgilpkkfpbefaaGreatDoor
open Go.RowKit Go.Shelf Go.Maps Go.WideMaps

theorem writeNumber_big {k : Int} (h0 : 0 ≤ k) (h1 : k ≤ 1000000) (w : World) (hT : Tb w) : Calls Tryz.prog 146 #[.int .i64 k] w fun e w' => e = .returned (.string (str (dec k))) ∧ Below w.heap.size w w' := by
  have hf := Tryz.strconv_FormatInt_10 k (by omega) (by omega) w hT
  have e1 : (⟨(Lib.itoa k).toArray⟩ : ByteArray) = str (dec k) := by
    obtain ⟨n, rfl⟩ := Int.eq_ofNat_of_zero_le h0
    rw [Lib.itoa_nonneg]; rfl
  rw [e1] at hf
  obtain ⟨s, hs⟩ : ∃ s, s = str (dec k) := ⟨_, rfl⟩
  rw [← hs] at hf ⊢
  clear hT e1 hs
  go_enter Tryz.func146, Tryz.ntmps146
  go_wp2_with (go_at_call 155; refine hf.mono ?_; rintro e w' ⟨rfl, q, os, rfl⟩)
  go_ret
  exact ⟨rfl, Lib.below_grow _ _ (Nat.le_refl _) _ _⟩

/-- What strings.ReplaceAll is owed to say here. -/
def RepAt (w : World) : Prop := ∀ (t : List UInt8) (W : World), t.length ≤ 1000 → Below w.heap.size w W → Calls Tryz.prog 157 #[.string (str t), .string ⟨#[32]⟩, .string ⟨#[95]⟩] W fun e w' => e = .returned (.string (str (t.map swp))) ∧ Below W.heap.size W w'
theorem RepAt.below {w w' : World} (h : RepAt w) (hb : Below w.heap.size w w') : RepAt w' := fun t W ht hW => h t W ht (hb.trans (hW.mono hb.size))

theorem fieldText (q : ByteArray) (W : World) : (Instr.field 74 (.agg #[.int .i64 0, .string q]) 1).run Tryz.prog W = .ok (.string q) W := by kernel_rfl
theorem keep4W {v v' : World} {P : Nat} {c0 c1 c2 c3 : Value} (hl : P < v.heap.size) (hb : Below v.heap.size v v') (h : v.cell? ⟨P, 0, none⟩ = some c0 ∧ v.cell? ⟨P, 1, none⟩ = some c1 ∧ v.cell? ⟨P, 2, none⟩ = some c2 ∧ v.cell? ⟨P, 3, none⟩ = some c3) : v'.cell? ⟨P, 0, none⟩ = some c0 ∧ v'.cell? ⟨P, 1, none⟩ = some c1 ∧ v'.cell? ⟨P, 2, none⟩ = some c2 ∧ v'.cell? ⟨P, 3, none⟩ = some c3 :=
  ⟨(hb.cell (p := ⟨P, 0, none⟩) hl).trans h.1, (hb.cell (p := ⟨P, 1, none⟩) hl).trans h.2.1, (hb.cell (p := ⟨P, 2, none⟩) hl).trans h.2.2.1, (hb.cell (p := ⟨P, 3, none⟩) hl).trans h.2.2.2⟩

set_option maxRecDepth 20000 in
set_option maxHeartbeats 1000000 in
theorem writeOut_any (u : Ou) (ka : Option Addr) (kn kc : Nat) (w : World) (hok : OutOk u) (hr : ruleR u.l u.x u.y = 0) (hkn : kn ≤ 1048576) (hI : IAt w ka kn u.l) (hTb : Tb w) (hRep : RepAt w) :
    Calls Tryz.prog 148 #[.agg #[.int .i64 u.v, .slice ka kn kc, .int .i64 u.x, .int .i64 u.y]] w fun e w' => e = .returned (.string (str (dec u.v ++ (61 :: (rtxR u.l u.x u.y).map swp)))) ∧ Below w.heap.size w w' := by
  obtain ⟨d1, hd1⟩ : ∃ z, z = dec u.v := ⟨_, rfl⟩
  obtain ⟨r1, hr1⟩ : ∃ z, z = rtxR u.l u.x u.y := ⟨_, rfl⟩
  obtain ⟨r2, hr2⟩ : ∃ z, z = r1.map swp := ⟨_, rfl⟩
  have hl1 : d1.length ≤ 10 := by rw [hd1]; exact dec_big hok.v.2
  have hlr : r1.length ≤ 100 := by rw [hr1]; exact rtx_len hok
  have hl2 : r2.length ≤ 100 := by rw [hr2]; simpa using hlr
  have hrt : rtR u.l u.x u.y = (0, r1) := by unfold rtR; rw [if_neg (by simp [hr]), hr1]
  rw [← hd1, ← hr1, ← hr2]
  obtain ⟨uv, huv⟩ : ∃ z, z = u.v := ⟨_, rfl⟩
  obtain ⟨ux, hux⟩ : ∃ z, z = u.x := ⟨_, rfl⟩
  obtain ⟨uy, huy⟩ : ∃ z, z = u.y := ⟨_, rfl⟩
  have hv := hok.v
  have hA : ∀ W, Below w.heap.size w W → Calls Tryz.prog 146 #[.int .i64 uv] W fun e w' => e = .returned (.string (str d1)) ∧ Below W.heap.size W w' := fun W hW => by rw [hd1, huv]; exact writeNumber_big hv.1 hv.2 W (hTb.below hW (Nat.le_refl _))
  have hB : ∀ W, Below w.heap.size w W → Calls Tryz.prog 158 #[.agg #[.slice ka kn kc, .int .i64 ux, .int .i64 uy]] W fun e w' => e = .returned (.agg #[.int .i64 0, .string (str r1)]) ∧ Below W.heap.size W w' := fun W hW => by
    have := iRuleText_any kn kc ka u.l u.x u.y W hkn (hI.below hW (Nat.le_refl _)) (hTb.below hW (Nat.le_refl _))
    rw [hrt] at this
    rw [hux, huy]
    exact this
  have hC : ∀ W, Below w.heap.size w W → Calls Tryz.prog 157 #[.string (str r1), .string ⟨#[32]⟩, .string ⟨#[95]⟩] W fun e w' => e = .returned (.string (str r2)) ∧ Below W.heap.size W w' := fun W hW => by rw [hr2]; exact hRep r1 W (by omega) hW
  rw [← huv, ← hux, ← huy]
  have hss : ∀ z : List UInt8, (str z).size = z.length := fun _ => rfl
  have happ : ∀ z r : List UInt8, str z ++ str r = str (z ++ r) := str_append
  have hc61 : ∀ z : List UInt8, str z ++ ⟨#[61]⟩ = str (z ++ [61]) := fun z => str_append z _
  have hfd := fieldText (str r1)
  have hz1 : ¬ 9223372036854775807 < d1.length + 1 := by omega
  have hz2 : ¬ 9223372036854775807 < d1.length + 1 + r2.length := by omega
  have hbx : Below w.heap.size w (w.alloc (.cells #[.int .i64 uv, .slice ka kn kc, .int .i64 ux, .int .i64 uy] 84)) := below_box _
  obtain ⟨W0, hW0⟩ : ∃ W0, W0 = w.alloc (.cells #[.int .i64 uv, .slice ka kn kc, .int .i64 ux, .int .i64 uy] 84) := ⟨_, rfl⟩
  have hP0 := heap_alloc_new w (.cells #[.int .i64 uv, .slice ka kn kc, .int .i64 ux, .int .i64 uy] 84)
  rw [← hW0] at hbx hP0
  obtain ⟨p0, p1, p2, p3, _⟩ := cells4 hP0
  have hl0 := lt_of_block hP0
  have HB0 : Hid (Below w.heap.size w W0) := hbx
  clear hd1 hr1 hr2 hrt huv hux huy hv hok hr hI hTb hRep hlr hbx hP0
  go_enter Tryz.func148, Tryz.ntmps148
  go_wp2
  rw [← hW0]
  clear hW0
  go_region_held3 (fun w' => w'.cell? ⟨w.heap.size, 0, none⟩ = some (.int .i64 uv) ∧ w'.cell? ⟨w.heap.size, 1, none⟩ = some (.slice ka kn kc) ∧ w'.cell? ⟨w.heap.size, 2, none⟩ = some (.int .i64 ux) ∧ w'.cell? ⟨w.heap.size, 3, none⟩ = some (.int .i64 uy)) (go_keep)
    (first
      | (go_at_call 146; refine (hA _ HB0.out.drew).mono ?_; rintro e w2 ⟨rfl, hb2⟩; obtain ⟨z0, z1, z2, z3⟩ := keep4W hl0 (show Below W0.heap.size W0 w2 from (Below.refl _ _).drew.trans hb2) ⟨p0, p1, p2, p3⟩; have hs2 : W0.heap.size ≤ w2.heap.size := hb2.size; have HB2 : Hid (Below w.heap.size w w2) := HB0.out.drew.trans (hb2.mono HB0.out.size))
      | (go_at_call 158; refine (hB _ HB2.out).mono ?_; rintro e w3 ⟨rfl, hb3⟩; obtain ⟨x0, x1, x2, x3⟩ := keep4W (Nat.lt_of_lt_of_le hl0 hs2) hb3 ⟨z0, z1, z2, z3⟩; have hs3 := Nat.le_trans hs2 hb3.size; have HB3 : Hid (Below w.heap.size w w3) := HB2.out.trans (hb3.mono HB2.out.size))
      | (go_at_call 157; refine (hC _ HB3.out).mono ?_; rintro e w4 ⟨rfl, hb4⟩; obtain ⟨v0, v1, v2, v3⟩ := keep4W (Nat.lt_of_lt_of_le hl0 hs3) hb4 ⟨x0, x1, x2, x3⟩; have HB4 : Hid (Below w.heap.size w w4) := HB3.out.trans (hb4.mono HB3.out.size)))
  go_wp2
  go_ret
  exact ⟨by simp, HB4.out⟩

end Go.Proofs.YtjgilpkkfpbefaaGreatDoor

namespace Go.Proofs.YtjgilpkkfpbefaaGreatDoor
open Go.RowKit Go.Shelf Go.Maps Go.WideMaps Go.Sort

set_option maxHeartbeats 1000000 in
theorem writeRef_any (p q : Int) (w : World) (hp : 0 ≤ p ∧ p ≤ 999) (hq : 0 ≤ q ∧ q ≤ 999) (hT : Tb w) :
    Calls Tryz.prog 156 #[.agg #[.int .i64 p, .int .i64 q]] w fun e w' => e = .returned (.string (str (refT (p, q)))) ∧ Below w.heap.size w w' := by
  have hmix : Tryz.prog.follows .mixedOrders = true := by kernel_rfl
  obtain ⟨d1, hd1⟩ : ∃ z, z = dec p := ⟨_, rfl⟩
  obtain ⟨d2, hd2⟩ : ∃ z, z = dec q := ⟨_, rfl⟩
  have hl1 : d1.length ≤ 10 := by rw [hd1]; exact dec_len hp.2
  have hl2 : d2.length ≤ 10 := by rw [hd2]; exact dec_len hq.2
  obtain ⟨W, hW⟩ : ∃ W, W = w.alloc (.cells #[.int .i64 p, .int .i64 q] 81) := ⟨_, rfl⟩
  have hb1 : Below w.heap.size w W := by rw [hW]; exact below_box _
  have hh1 : W.heap[w.heap.size]? = some (.cells #[.int .i64 p, .int .i64 q] 81 (0, 0)) := by rw [hW]; exact heap_alloc_new _ _
  obtain ⟨c0, c1⟩ := cells2 hh1
  have z0 := cell_regrown c0
  have z1 := cell_regrown c1
  have A1 : ∀ dd os, Calls Tryz.prog 146 #[.int .i64 p] (grow (redrawn W dd) os) fun e w'' => e = .returned (.string (str d1)) ∧ ∃ p : Regrown, w'' = grow (redrawn W p.d) p.os := fun dd os => Calls.regrown_of (by rw [hd1]; exact writeNumber_any hp.1 hp.2 _ (hT.below (hb1.trans ((below_regrown W dd os).mono hb1.size)) (Nat.le_refl _)))
  have A2 : ∀ dd os, Calls Tryz.prog 146 #[.int .i64 q] (grow (redrawn W dd) os) fun e w'' => e = .returned (.string (str d2)) ∧ ∃ p : Regrown, w'' = grow (redrawn W p.d) p.os := fun dd os => Calls.regrown_of (by rw [hd2]; exact writeNumber_any hq.1 hq.2 _ (hT.below (hb1.trans ((below_regrown W dd os).mono hb1.size)) (Nat.le_refl _)))
  have hss : ∀ z : List UInt8, (str z).size = z.length := fun _ => rfl
  have happ : ∀ z r : List UInt8, str z ++ str r = str (z ++ r) := str_append
  have hc58 : ∀ z : List UInt8, str z ++ ⟨#[58]⟩ = str (z ++ [58]) := fun z => str_append z _
  have g1 : ¬ 9223372036854775807 < d1.length + 1 := by omega
  have g2 : ¬ 9223372036854775807 < d1.length + 1 + d2.length := by omega
  have HR : Hid (refT (p, q) = d1 ++ (58 :: d2)) := by show _ = _; rw [hd1, hd2]; rfl
  clear hd1 hd2 hp hq hT hh1 c0 c1
  rw [HR.out]
  go_enter Tryz.func156, Tryz.ntmps156
  go_wp2_with fail
  rw [← hW]
  clear hW
  refine wp_region_quiet_below hmix (by kernel_rfl) ?_
  repeat (go_big_quiet_step (first | (with_reducible exact A1 _ _) | (with_reducible exact A2 _ _)))
  refine wpQuiet_nil ?_
  intro V hw'
  have hbV : Below W.heap.size W V := by
    obtain ⟨⟨dz, osz⟩, hw''⟩ := hw'
    rw [hw'']; exact below_regrown W dz osz
  clear hw' A1 A2
  go_wp2
  go_ret
  exact ⟨by simp, hb1.trans (hbV.mono hb1.size)⟩

end Go.Proofs.YtjgilpkkfpbefaaGreatDoor
