/- The program's QuorumFault. -/
import Derived.Test.YtmnahhojfcigmaaXc
namespace Go.Proofs.Ytmnahhojfcigmaa
open Go.RowKit Go.Shelf Go.Maps Go.WideMaps

/-- An iterator over the quorum's keys, in a block of its own. -/
structure ItAt (w v : World) (B : Nat) (a : Option Addr) (n cap : Nat) (x : Int) : Prop where
  qbx : QBx w v a n cap x 26
  lt : B < v.heap.size
  cell : v.cell? ⟨B, 0, none⟩ = some (.slice a n cap)

theorem itAt_any {w v : World} {a : Option Addr} {n cap : Nat} {x : Int} (h : QBx w v a n cap x 26) :
    Calls Try.prog 35 #[.slice a n cap] v fun e w' => ∃ B, e = .returned (.func (.func 60) #[] #[.pointer (some ⟨B, 0, none⟩)]) ∧ Hid (ItAt w w' B a n cap x) :=
  (iValuesQ_any a n cap v).mono fun _ _ ⟨h1, h2⟩ => ⟨_, h1, by subst h2; exact ⟨h.step (below_box _), by simp, (new1 v _ _).1⟩⟩
theorem ItAt.keys {w v : World} {B : Nat} {a : Option Addr} {n cap : Nat} {x : Int} {l : List Int} (h : ItAt w v B a n cap x) (hl : n ≤ 1048576) (hI : IAt w a n l) :
    Calls Try.prog 34 #[.func (.func 60) #[] #[.pointer (some ⟨B, 0, none⟩)]] v fun e w' => e = .returned (.bool (allK l)) ∧ Hid (QBx w w' a n cap x 26) :=
  (areKeysQ_any B n cap a l w v hl hI h.qbx.bel h.lt h.cell).mono fun _ _ ⟨e1, e2⟩ => ⟨e1, h.qbx.step e2⟩
theorem ItAt.rise {w v : World} {B : Nat} {a : Option Addr} {n cap : Nat} {x : Int} {l : List Int} (h : ItAt w v B a n cap x) (hl : n ≤ 1048576) (hI : IAt w a n l) :
    Calls Try.prog 36 #[.func (.func 60) #[] #[.pointer (some ⟨B, 0, none⟩)]] v fun e w' => e = .returned (.bool (riseB 0 l)) ∧ Hid (QBx w w' a n cap x 26) :=
  (keysRiseQ_any B n cap a l w v hl hI h.qbx.bel h.lt h.cell).mono fun _ _ ⟨e1, e2⟩ => ⟨e1, h.qbx.step e2⟩
theorem quSize_at {w v : World} {a : Option Addr} {n cap : Nat} {x : Int} (h : QBx w v a n cap x 26) :
    Calls Try.prog 59 #[.agg #[.slice a n cap, .int .i64 x]] v fun e w' => e = .returned (.int .i64 n) ∧ Hid (QBx w w' a n cap x 26) :=
  (quSize_any a n cap x v).mono fun _ _ ⟨h1, h2⟩ => ⟨h1, by subst h2; exact h.step (below_box _)⟩

set_option maxRecDepth 20000 in
set_option maxHeartbeats 2000000 in
theorem iQuorumFault_any (n cap : Nat) (a : Option Addr) (l : List Int) (x : Int) (w : World) (hl : n ≤ 1048576) (hI : IAt w a n l) :
    Calls Try.prog 32 #[.agg #[.slice a n cap, .int .i64 x]] w fun e w' => e = .returned (.int .i64 (quoR l x)) ∧ Below w.heap.size w w' := by
  have HN : Hid (l.length = n) := hI.1
  have B0 : QBx w (w.alloc (.cells #[.slice a n cap, .int .i64 x] 26)) a n cap x 26 := QBx.start
  obtain ⟨b1, hb1⟩ : ∃ b, b = inB n 1 8 := ⟨_, rfl⟩
  obtain ⟨ka, hka⟩ : ∃ b, b = allK l := ⟨_, rfl⟩
  obtain ⟨kr, hkr⟩ : ∃ b, b = riseB 0 l := ⟨_, rfl⟩
  obtain ⟨kb, hkb⟩ : ∃ b, b = inB x 1 n := ⟨_, rfl⟩
  have hQ : ∀ v, Calls Try.prog 58 #[.int .i64 n] v fun e w' => e = .returned (.bool b1) ∧ w' = v := fun v => by rw [hb1]; exact isQS_any _ v
  have hW : ∀ v, Calls Try.prog 33 #[.int .i64 x, .int .i64 1, .int .i64 n] v fun e w' => e = .returned (.bool kb) ∧ w' = v := fun v => by rw [hkb]; exact isWithin_any _ _ _ v
  have HS : Hid (∀ v, QBx w v a n cap x 26 → Calls Try.prog 59 #[.agg #[.slice a n cap, .int .i64 x]] v fun e w' => e = .returned (.int .i64 n) ∧ Hid (QBx w w' a n cap x 26)) := fun v h => quSize_at h
  have HV : Hid (∀ v, QBx w v a n cap x 26 → Calls Try.prog 35 #[.slice a n cap] v fun e w' => ∃ B, e = .returned (.func (.func 60) #[] #[.pointer (some ⟨B, 0, none⟩)]) ∧ Hid (ItAt w w' B a n cap x)) := fun v h => itAt_any h
  have HK : Hid (∀ v B, ItAt w v B a n cap x → Calls Try.prog 34 #[.func (.func 60) #[] #[.pointer (some ⟨B, 0, none⟩)]] v fun e w' => e = .returned (.bool ka) ∧ Hid (QBx w w' a n cap x 26)) := fun v B h => by rw [hka]; exact h.keys hl hI
  have HR2 : Hid (∀ v B, ItAt w v B a n cap x → Calls Try.prog 36 #[.func (.func 60) #[] #[.pointer (some ⟨B, 0, none⟩)]] v fun e w' => e = .returned (.bool kr) ∧ Hid (QBx w w' a n cap x 26)) := fun v B h => by rw [hkr]; exact h.rise hl hI
  have hs0 := HS.out _ B0
  have HB1 : Hid (b1 = inB n 1 8) := hb1
  have HKA : Hid (ka = allK l) := hka
  have HKR : Hid (kr = riseB 0 l) := hkr
  have HKB : Hid (kb = inB x 1 n) := hkb
  obtain ⟨r, hr⟩ : ∃ r, r = quoR l x := ⟨_, rfl⟩
  rw [← hr]
  have HR : Hid (r = quoR l x) := hr
  clear hI hb1 hka hkr hkb hr B0
  cases b1
  · obtain rfl : r = 2 := by rw [HR.out]; exact quoR_many HN.out HB1.out.symm
    go_enter Try.func32, Try.ntmps32
    go_wp2_with (first
      | (go_at_call 59; (with_reducible refine hs0.mono ?_); clear hs0; rintro e v1 ⟨rfl, Q1⟩)
      | (go_at_call 58; (with_reducible refine (hQ _).mono ?_); rintro e w' ⟨rfl, hw⟩; have hw2 := hw.symm; subst hw2))
    go_ret
    exact ⟨rfl, Q1.out.bel⟩
  have hd : ∀ (v : World) (j : Nat), QBx w v a n cap x 26 → QBx w (v.drewN j) a n cap x 26 := fun v j h => h.step (Joins.below_draws _ v j)
  have HD : Hid (∀ (v : World) (j : Nat), QBx w v a n cap x 26 → QBx w (v.drewN j) a n cap x 26) := hd
  clear hd
  cases ka
  · obtain rfl : r = 3 := by rw [HR.out]; exact quoR_range HN.out HB1.out.symm (.inl HKA.out.symm)
    go_enter Try.func32, Try.ntmps32
    go_wp2_with (first
      | (go_at_call 59; (with_reducible refine hs0.mono ?_); clear hs0; rintro e v1 ⟨rfl, Q1⟩; obtain ⟨p0, p1⟩ := cells2 Q1.out.box; have hv1 := HV.out _ (HD.out v1 1 Q1.out))
      | (go_at_call 58; (with_reducible refine (hQ _).mono ?_); rintro e w' ⟨rfl, hw⟩; have hw2 := hw.symm; subst hw2))
    first
    | go_region_with (first
          | (go_at_call 35; refine hv1.mono ?_; clear hv1; rintro e v2 ⟨B, rfl, I2⟩; obtain ⟨q0, q1⟩ := cells2 I2.out.qbx.box; have hk2 := HK.out _ _ I2.out)
          | (go_at_call 34; refine hk2.mono ?_; clear hk2; rintro e v3 ⟨rfl, Q3⟩; obtain ⟨r0, r1⟩ := cells2 Q3.out.box))
    | fail
    all_goals
      go_wp2
      go_ret
      exact ⟨rfl, Q3.out.bel⟩
  cases kb
  · obtain rfl : r = 3 := by rw [HR.out]; exact quoR_range HN.out HB1.out.symm (.inr HKB.out.symm)
    go_enter Try.func32, Try.ntmps32
    go_wp2_with (first
      | (go_at_call 59; (with_reducible refine hs0.mono ?_); clear hs0; rintro e v1 ⟨rfl, Q1⟩; obtain ⟨p0, p1⟩ := cells2 Q1.out.box; have hv1 := HV.out _ (HD.out v1 1 Q1.out))
      | (go_at_call 58; (with_reducible refine (hQ _).mono ?_); rintro e w' ⟨rfl, hw⟩; have hw2 := hw.symm; subst hw2))
    go_region_held3 (fun w' => w'.cell? ⟨w.heap.size, 0, none⟩ = some (.slice a n cap) ∧ w'.cell? ⟨w.heap.size, 1, none⟩ = some (.int .i64 x)) (go_keep)
        (first
          | (go_at_call 35; refine hv1.mono ?_; clear hv1; rintro e v2 ⟨B, rfl, I2⟩; obtain ⟨q0, q1⟩ := cells2 I2.out.qbx.box; have hk2 := HK.out _ _ I2.out)
          | (go_at_call 34; refine hk2.mono ?_; clear hk2; rintro e v3 ⟨rfl, Q3⟩; obtain ⟨r0, r1⟩ := cells2 Q3.out.box; have hs3 := HS.out _ Q3.out)
          | (go_at_call 59; refine hs3.mono ?_; clear hs3; rintro e v4 ⟨rfl, Q4⟩; obtain ⟨t0, t1⟩ := cells2 Q4.out.box)
          | (go_at_call 33; refine (hW _).mono ?_; rintro e w' ⟨rfl, hw⟩; have hw2 := hw.symm; subst hw2))
    go_wp2
    go_ret
    exact ⟨rfl, Q4.out.bel⟩
  cases kr
  · obtain rfl : r = 1 := by rw [HR.out]; exact quoR_form HN.out HB1.out.symm HKA.out.symm HKB.out.symm HKR.out.symm
    go_enter Try.func32, Try.ntmps32
    go_wp2_with (first
      | (go_at_call 59; (with_reducible refine hs0.mono ?_); clear hs0; rintro e v1 ⟨rfl, Q1⟩; obtain ⟨p0, p1⟩ := cells2 Q1.out.box; have hv1 := HV.out _ (HD.out v1 1 Q1.out))
      | (go_at_call 58; (with_reducible refine (hQ _).mono ?_); rintro e w' ⟨rfl, hw⟩; have hw2 := hw.symm; subst hw2))
    go_region_held3 (fun w' => w'.cell? ⟨w.heap.size, 0, none⟩ = some (.slice a n cap) ∧ w'.cell? ⟨w.heap.size, 1, none⟩ = some (.int .i64 x)) (go_keep)
        (first
          | (go_at_call 35; refine hv1.mono ?_; clear hv1; rintro e v2 ⟨B, rfl, I2⟩; obtain ⟨q0, q1⟩ := cells2 I2.out.qbx.box; have hk2 := HK.out _ _ I2.out)
          | (go_at_call 34; refine hk2.mono ?_; clear hk2; rintro e v3 ⟨rfl, Q3⟩; obtain ⟨r0, r1⟩ := cells2 Q3.out.box; have hs3 := HS.out _ Q3.out)
          | (go_at_call 59; refine hs3.mono ?_; clear hs3; rintro e v4 ⟨rfl, Q4⟩; obtain ⟨t0, t1⟩ := cells2 Q4.out.box)
          | (go_at_call 33; refine (hW _).mono ?_; rintro e w' ⟨rfl, hw⟩; have hw2 := hw.symm; subst hw2))
    have hv4 := HV.out _ Q4.out
    go_wp2_with (first
      | (go_at_call 35; (with_reducible refine hv4.mono ?_); clear hv4; rintro e v5 ⟨B5, rfl, I5⟩; obtain ⟨u0, u1⟩ := cells2 I5.out.qbx.box; have hk5 := HR2.out _ _ I5.out)
      | (go_at_call 36; (with_reducible refine hk5.mono ?_); clear hk5; rintro e v6 ⟨rfl, Q6⟩))
    go_ret
    exact ⟨rfl, Q6.out.bel⟩
  · obtain rfl : r = 0 := by rw [HR.out]; exact quoR_ok HN.out HB1.out.symm HKA.out.symm HKB.out.symm HKR.out.symm
    go_enter Try.func32, Try.ntmps32
    go_wp2_with (first
      | (go_at_call 59; (with_reducible refine hs0.mono ?_); clear hs0; rintro e v1 ⟨rfl, Q1⟩; obtain ⟨p0, p1⟩ := cells2 Q1.out.box; have hv1 := HV.out _ (HD.out v1 1 Q1.out))
      | (go_at_call 58; (with_reducible refine (hQ _).mono ?_); rintro e w' ⟨rfl, hw⟩; have hw2 := hw.symm; subst hw2))
    go_region_held3 (fun w' => w'.cell? ⟨w.heap.size, 0, none⟩ = some (.slice a n cap) ∧ w'.cell? ⟨w.heap.size, 1, none⟩ = some (.int .i64 x)) (go_keep)
        (first
          | (go_at_call 35; refine hv1.mono ?_; clear hv1; rintro e v2 ⟨B, rfl, I2⟩; obtain ⟨q0, q1⟩ := cells2 I2.out.qbx.box; have hk2 := HK.out _ _ I2.out)
          | (go_at_call 34; refine hk2.mono ?_; clear hk2; rintro e v3 ⟨rfl, Q3⟩; obtain ⟨r0, r1⟩ := cells2 Q3.out.box; have hs3 := HS.out _ Q3.out)
          | (go_at_call 59; refine hs3.mono ?_; clear hs3; rintro e v4 ⟨rfl, Q4⟩; obtain ⟨t0, t1⟩ := cells2 Q4.out.box)
          | (go_at_call 33; refine (hW _).mono ?_; rintro e w' ⟨rfl, hw⟩; have hw2 := hw.symm; subst hw2))
    have hv4 := HV.out _ Q4.out
    go_wp2_with (first
      | (go_at_call 35; (with_reducible refine hv4.mono ?_); clear hv4; rintro e v5 ⟨B5, rfl, I5⟩; obtain ⟨u0, u1⟩ := cells2 I5.out.qbx.box; have hk5 := HR2.out _ _ I5.out)
      | (go_at_call 36; (with_reducible refine hk5.mono ?_); clear hk5; rintro e v6 ⟨rfl, Q6⟩))
    go_ret
    exact ⟨rfl, Q6.out.bel⟩

end Go.Proofs.Ytmnahhojfcigmaa
