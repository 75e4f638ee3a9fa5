/- What keeps a new cluster from being one: the program's. -/
import Derived.Test.YtmnahhojfcigmaaUc
import Derived.Test.YtmnahhojfcigmaaXd
namespace Go.Proofs.Ytmnahhojfcigmaa
open Go.RowKit Go.Shelf Go.Maps Go.WideMaps

/-- An iterator over numbers, in a block of its own. -/
structure ItL (w v : World) (B : Nat) (b : Option Addr) (m d : Nat) : Prop where
  bel : Below w.heap.size w v
  lt : B < v.heap.size
  cell : v.cell? ⟨B, 0, none⟩ = some (.slice b m d)
theorem itL_any {w v : World} {b : Option Addr} {m d : Nat} (h : Below w.heap.size w v) :
    Calls Try.prog 35 #[.slice b m d] v fun e w' => ∃ B, e = .returned (.func (.func 60) #[] #[.pointer (some ⟨B, 0, none⟩)]) ∧ Hid (ItL w w' B b m d) :=
  (iValuesQ_any b m d v).mono fun _ _ ⟨h1, h2⟩ => ⟨_, h1, by subst h2; exact ⟨h.trans ((below_box _).mono h.size), by simp, (new1 v _ _).1⟩⟩
theorem ItL.keys {w v : World} {B : Nat} {b : Option Addr} {m d : Nat} {t : List Int} (h : ItL w v B b m d) (hl : m ≤ 1048576) (hI : IAt w b m t) :
    Calls Try.prog 34 #[.func (.func 60) #[] #[.pointer (some ⟨B, 0, none⟩)]] v fun e w' => e = .returned (.bool (allK t)) ∧ Hid (Below w.heap.size w w') :=
  (areKeysQ_any B m d b t w v hl hI h.bel h.lt h.cell).mono fun _ _ ⟨e1, e2⟩ => ⟨e1, h.bel.trans (e2.mono h.bel.size)⟩
theorem ItL.rise {w v : World} {B : Nat} {b : Option Addr} {m d : Nat} {t : List Int} (h : ItL w v B b m d) (hl : m ≤ 1048576) (hI : IAt w b m t) :
    Calls Try.prog 36 #[.func (.func 60) #[] #[.pointer (some ⟨B, 0, none⟩)]] v fun e w' => e = .returned (.bool (riseB 0 t)) ∧ Hid (Below w.heap.size w w') :=
  (keysRiseQ_any B m d b t w v hl hI h.bel h.lt h.cell).mono fun _ _ ⟨e1, e2⟩ => ⟨e1, h.bel.trans (e2.mono h.bel.size)⟩

set_option maxRecDepth 20000 in
set_option maxHeartbeats 2000000 in
theorem startFault_any (n cap m d : Nat) (a b : Option Addr) (l t : List Int) (x h : Int) (w : World) (hn : n ≤ 1048576) (hm : m ≤ 1048576) (hI : IAt w a n l) (hJ : IAt w b m t) :
    Calls Try.prog 22 #[.agg #[.slice a n cap, .int .i64 x], .slice b m d, .int .i64 0, .int .i64 h] w fun e w' => e = .returned (.int .i64 (cluC l x t h)) ∧ Below w.heap.size w w' := by
  have hbx : Below w.heap.size w (w.alloc (.cells #[.slice a n cap, .int .i64 x] 26)) := below_box _
  have hF := iQuorumFault_any n cap a l x _ hn (hI.below hbx (Nat.le_refl _))
  have HBX : Hid (Below w.heap.size w (w.alloc (.cells #[.slice a n cap, .int .i64 x] 26))) := hbx
  have HM : Hid (t.length = m) := hJ.1
  have HV : Hid (∀ v, Below w.heap.size w v → Calls Try.prog 35 #[.slice b m d] v fun e w' => ∃ B, e = .returned (.func (.func 60) #[] #[.pointer (some ⟨B, 0, none⟩)]) ∧ Hid (ItL w w' B b m d)) := fun v h => itL_any h
  obtain ⟨ka, hka⟩ : ∃ b, b = allK t := ⟨_, rfl⟩
  obtain ⟨kr, hkr⟩ : ∃ b, b = riseB 0 t := ⟨_, rfl⟩
  obtain ⟨kh, hkh⟩ : ∃ b, b = inB h 1 4 := ⟨_, rfl⟩
  have hW : ∀ v, Calls Try.prog 33 #[.int .i64 h, .int .i64 1, .int .i64 4] v fun e w' => e = .returned (.bool kh) ∧ w' = v := fun v => by rw [hkh]; exact isWithin_any _ _ _ v
  have HK : Hid (∀ v B, ItL w v B b m d → Calls Try.prog 34 #[.func (.func 60) #[] #[.pointer (some ⟨B, 0, none⟩)]] v fun e w' => e = .returned (.bool ka) ∧ Hid (Below w.heap.size w w')) := fun v B h => by rw [hka]; exact h.keys hm hJ
  have HR2 : Hid (∀ v B, ItL w v B b m d → Calls Try.prog 36 #[.func (.func 60) #[] #[.pointer (some ⟨B, 0, none⟩)]] v fun e w' => e = .returned (.bool kr) ∧ Hid (Below w.heap.size w w')) := fun v B h => by rw [hkr]; exact h.rise hm hJ
  obtain ⟨q, hq⟩ : ∃ q, q = quoR l x := ⟨_, rfl⟩
  obtain ⟨r, hr⟩ : ∃ r, r = cluC l x t h := ⟨_, rfl⟩
  have hr1 : r = if q ≠ 0 then q else if 20 < m ∨ kh = false then 2 else if ka = false then 3 else if kr = false then 1 else 0 := by rw [hr, hq, hka, hkr, hkh]; unfold cluC badR; rw [HM.out]
  rw [← hr]
  rw [← hq] at hF
  have HR : Hid (r = if q ≠ 0 then q else if 20 < m ∨ kh = false then 2 else if ka = false then 3 else if kr = false then 1 else 0) := hr1
  clear hbx hI hJ hka hkr hkh hq hr hr1
  by_cases h0 : q = 0
  · subst h0
    by_cases h20 : 20 < m
    · obtain rfl : r = 2 := by rw [HR.out, if_neg (by simp), if_pos (.inl h20)]
      have hki : (20 : Int) < (m : Int) := by omega
      go_enter Try.func22, Try.ntmps22
      go_wp2_with (go_at_call 32; (with_reducible refine hF.mono ?_); clear hF; rintro e v1 ⟨rfl, hb1⟩; have HB1 : Hid (Below w.heap.size w v1) := HBX.out.trans (hb1.mono HBX.out.size); clear hb1)
      go_ret
      exact ⟨rfl, HB1.out⟩
    have hki : ¬ (20 : Int) < (m : Int) := by omega
    cases kh
    · obtain rfl : r = 2 := by rw [HR.out, if_neg (by simp), if_pos (.inr rfl)]
      go_enter Try.func22, Try.ntmps22
      go_wp2_with (first
        | (go_at_call 32; (with_reducible refine hF.mono ?_); clear hF; rintro e v1 ⟨rfl, hb1⟩; have HB1 : Hid (Below w.heap.size w v1) := HBX.out.trans (hb1.mono HBX.out.size); clear hb1)
        | (go_at_call 33; (with_reducible refine (hW _).mono ?_); rintro e w' ⟨rfl, hw⟩; have hw2 := hw.symm; subst hw2))
      go_ret
      exact ⟨rfl, HB1.out⟩
    have HR1 : Hid (r = if ka = false then 3 else if kr = false then 1 else 0) := by show _ = _; rw [HR.out, if_neg (by simp), if_neg (by simp; omega)]
    clear HR
    cases ka
    · obtain rfl : r = 3 := by rw [HR1.out, if_pos rfl]
      go_enter Try.func22, Try.ntmps22
      go_wp2_with (first
        | (go_at_call 32; (with_reducible refine hF.mono ?_); clear hF; rintro e v1 ⟨rfl, hb1⟩; have HB1 : Hid (Below w.heap.size w v1) := HBX.out.trans (hb1.mono HBX.out.size); have hv1 := HV.out _ HB1.out; clear hb1)
        | (go_at_call 33; (with_reducible refine (hW _).mono ?_); rintro e w' ⟨rfl, hw⟩; have hw2 := hw.symm; subst hw2)
        | (go_at_call 35; (with_reducible refine hv1.mono ?_); clear hv1; rintro e v2 ⟨B, rfl, I2⟩; have hk2 := HK.out _ _ I2.out)
        | (go_at_call 34; (with_reducible refine hk2.mono ?_); clear hk2; rintro e v3 ⟨rfl, Q3⟩))
      go_ret
      exact ⟨rfl, Q3.out⟩
    obtain rfl : r = if kr = false then 1 else 0 := by rw [HR1.out, if_neg (by simp)]
    cases kr
    all_goals
      go_enter Try.func22, Try.ntmps22
      go_wp2_with (first
        | (go_at_call 32; (with_reducible refine hF.mono ?_); clear hF; rintro e v1 ⟨rfl, hb1⟩; have HB1 : Hid (Below w.heap.size w v1) := HBX.out.trans (hb1.mono HBX.out.size); have hv1 := HV.out _ HB1.out; clear hb1)
        | (go_at_call 33; (with_reducible refine (hW _).mono ?_); rintro e w' ⟨rfl, hw⟩; have hw2 := hw.symm; subst hw2)
        | (go_at_call 35; (first
            | ((with_reducible refine hv1.mono ?_); clear hv1; rintro e v2 ⟨B, rfl, I2⟩; have hk2 := HK.out _ _ I2.out)
            | ((with_reducible refine hv4.mono ?_); clear hv4; rintro e v5 ⟨B5, rfl, I5⟩; have hk5 := HR2.out _ _ I5.out)))
        | (go_at_call 34; (with_reducible refine hk2.mono ?_); clear hk2; rintro e v3 ⟨rfl, Q3⟩; have hv4 := HV.out _ Q3.out)
        | (go_at_call 36; (with_reducible refine hk5.mono ?_); clear hk5; rintro e v6 ⟨rfl, Q6⟩))
      go_ret
      exact ⟨rfl, Q6.out⟩
  · obtain rfl : r = q := by rw [HR.out, if_pos h0]
    have hq0 : (r == 0) = false := by simpa using h0
    go_enter Try.func22, Try.ntmps22
    go_wp2_with (go_at_call 32; (with_reducible refine hF.mono ?_); clear hF; rintro e v1 ⟨rfl, hb1⟩; have HB1 : Hid (Below w.heap.size w v1) := HBX.out.trans (hb1.mono HBX.out.size); clear hb1)
    go_ret
    exact ⟨rfl, HB1.out⟩

end Go.Proofs.Ytmnahhojfcigmaa
