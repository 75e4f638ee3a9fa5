/- The law on SameMembers answers true, whatever lists of members come in, and writes nothing that was there. -/
import Derived.Test.YtcjcomeeifpeoaaEb
namespace Go.Proofs.Ytcjcomeeifpeoaa
open Go.RowKit Go.Maps Go.WideMaps

set_option maxRecDepth 20000 in
set_option maxHeartbeats 2000000 in
theorem lawSameMembers (n c m d : Nat) (a b : Option Addr) (cs cs' : List Mb) (w : World) (hn : n ≤ maxLen) (hm : m ≤ maxLen) (h : MAt w a n cs) (h' : MAt w b m cs') :
    Calls Try.prog 7 #[.slice a n c, .slice b m d] w fun e w' => e = .returned (.bool true) ∧ Below w.heap.size w w' := by
  have hsz := szMs_any a n c 1048576 w (by omega) (by omega) hn
  have HT : Hid (MAt w a n cs) := h
  have HU : Hid (MAt w b m cs') := h'
  clear h h'
  obtain ⟨sm, hsm⟩ : ∃ r, r = decide (cs = cs') := ⟨_, rfl⟩
  have HSM : Hid (decide (cs = cs') = sm) := hsm.symm
  clear hsm
  go_enter Try.func7, Try.ntmps7
  go_wp2_with (go_at_call 8; (with_reducible refine hsz.mono ?_); clear hsz; rintro e w1 ⟨r, rfl, hw1, hr⟩; have hw2 := hw1.symm; subst hw2; clear hw1)
  · go_ret
    exact ⟨rfl, Below.refl _ _⟩
  have hr0 : 0 ≤ r := by assumption
  rcases hr with e | ⟨_, hr1, hn2⟩
  · omega
  have hn3 : n ≤ 1048576 := by omega
  clear hn2
  have hsz2 := szMs_any b m d r w hr0 (by omega) hm
  go_wp2_with (go_at_call 8; (with_reducible refine hsz2.mono ?_); clear hsz2; rintro e w2 ⟨r2, rfl, hw1, hr2⟩; have hw2 := hw1.symm; subst hw2; clear hw1)
  · go_ret
    exact ⟨rfl, Below.refl _ _⟩
  have hr20 : 0 ≤ r2 := by assumption
  rcases hr2 with e | ⟨_, _, hm2⟩
  · omega
  have hm3 : m ≤ 1048576 := by omega
  clear hm2
  have HTO : Hid (∀ v, Below w.heap.size w v → Calls Try.prog 10 #[.slice a n c] v fun e w' => ∃ g cc, e = .returned (.slice (some ⟨g, 0, none⟩) n cc) ∧ Hid (MAt w' (some ⟨g, 0, none⟩) n cs) ∧ Below w.heap.size w w' ∧ Below v.heap.size v w') := fun v hv =>
    (toMs_any a n c cs v hn3 (HT.out.below hv (Nat.le_refl _))).mono fun e w' ⟨g, cc, h1, h2, h3⟩ => ⟨g, cc, h1, MAt.owned h2 HT.out.1, hv.trans (h3.mono hv.size), h3⟩
  have HUO : Hid (∀ v, Below w.heap.size w v → Calls Try.prog 10 #[.slice b m d] v fun e w' => ∃ g cc, e = .returned (.slice (some ⟨g, 0, none⟩) m cc) ∧ Hid (MAt w' (some ⟨g, 0, none⟩) m cs') ∧ Below w.heap.size w w' ∧ Below v.heap.size v w') := fun v hv =>
    (toMs_any b m d cs' v hm3 (HU.out.below hv (Nat.le_refl _))).mono fun e w' ⟨g, cc, h1, h2, h3⟩ => ⟨g, cc, h1, MAt.owned h2 HU.out.1, hv.trans (h3.mono hv.size), h3⟩
  refine (HTO.out w (Below.refl _ _)).mono ?_
  rintro e w3 ⟨g0, c0, rfl, HA3, hB3, _⟩
  have hu3 := HUO.out w3 hB3
  go_wp2_with (first
    | (go_at_call 10; (with_reducible refine hu3.mono ?_); clear hu3; rintro e w4 ⟨g1, c1, rfl, HA4, hB4, hb4⟩; have hsp := sSameMembers_any _ _ n m c0 c1 cs cs' w4 hn3 hm3 (HA3.out.below hb4 (Nat.le_refl _)) HA4.out; rw [HSM.out] at hsp; clear hb4)
    | (go_at_call 30; (with_reducible refine hsp.mono ?_); clear hsp; rintro e w5 ⟨rfl, hb5⟩; have hB5 : Below w.heap.size w w5 := hB4.trans (hb5.mono hB4.size); have ht5 := HTO.out w5 hB5; clear hb5 HA3 HA4))
  refine ht5.mono ?_
  clear ht5
  rintro e w6 ⟨g2, c2, rfl, HA6, hB6, _⟩
  have hu6 := HUO.out w6 hB6
  go_wp2_with (first
    | (go_at_call 10; (with_reducible refine hu6.mono ?_); clear hu6; rintro e w7 ⟨g3, c3, rfl, HA7, hB7, hb7⟩; have HA6' : Hid (MAt w7 (some ⟨g2, 0, none⟩) n cs) := HA6.out.below hb7 (Nat.le_refl _); have him := iSameMembers_any _ _ n m c2 c3 cs cs' w7 hn3 hm3 HA6'.out HA7.out; rw [HSM.out] at him; clear hb7)
    | (go_at_call 31; (with_reducible refine him.mono ?_); clear him; rintro e w8 ⟨rfl, hb8⟩; have hB8 : Below w.heap.size w w8 := hB7.trans (hb8.mono hB7.size); have HA8 : Hid (MAt w8 (some ⟨g2, 0, none⟩) n cs) := HA6'.out.below hb8 (Nat.le_refl _); have HA8' : Hid (MAt w8 (some ⟨g3, 0, none⟩) m cs') := HA7.out.below hb8 (Nat.le_refl _); have ht8 := HTO.out w8 hB8; clear hb8))
  refine ht8.mono ?_
  clear ht8
  rintro e w9 ⟨g4, c4, rfl, HA9, hB9, hb9⟩
  have heq := eqMs_any _ _ n c2 c4 cs w9 hn3 (HA8.out.below hb9 (Nat.le_refl _)) HA9.out
  have HA9' : Hid (MAt w9 (some ⟨g3, 0, none⟩) m cs') := HA8'.out.below hb9 (Nat.le_refl _)
  clear hb9
  go_wp2_with (first
    | (go_at_call 12; (with_reducible refine heq.mono ?_); clear heq; rintro e w10 ⟨rfl, hb10⟩; have hB10 : Below w.heap.size w w10 := hB9.trans (hb10.mono hB9.size); have HA10 : Hid (MAt w10 (some ⟨g3, 0, none⟩) m cs') := HA9'.out.below hb10 (Nat.le_refl _); have hu10 := HUO.out w10 hB10; clear hb10))
  refine hu10.mono ?_
  clear hu10
  rintro e w11 ⟨g5, c5, rfl, HA11, hB11, hb11⟩
  have heq := eqMs_any _ _ m c3 c5 cs' w11 hm3 (HA10.out.below hb11 (Nat.le_refl _)) HA11.out
  clear hb11
  go_wp2_with (first
    | (go_at_call 12; (with_reducible refine heq.mono ?_); clear heq; rintro e w12 ⟨rfl, hb12⟩; have hB12 : Below w.heap.size w w12 := hB11.trans (hb12.mono hB11.size); clear hb12))
  go_ret
  exact ⟨rfl, hB12⟩

end Go.Proofs.Ytcjcomeeifpeoaa
