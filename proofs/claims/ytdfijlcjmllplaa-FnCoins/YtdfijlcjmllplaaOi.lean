/- Coins that are drawn right, in memory of their own. -/
import Derived.Test.YtdfijlcjmllplaaOh
import Derived.Test.YtdfijlcjmllplaaDw
import Derived.Test.YtdfijlcjmllplaaDk
namespace Go.Proofs.Ytdfijlcjmllplaa
open Go.RowKit Go.Shelf Go.Maps Go.WideMaps

theorem putR_lens {cs : List Co} {t h : Int} {m : Bool} {os : List Ou} (h0 : (putR cs t os h m).1 = 0) : (putR cs t os h m).2.length ≤ 40 ∧ ∀ j, j < (putR cs t os h m).2.length → ((putR cs t os h m).2.getD j C0).l.length ≤ 3 := by
  unfold putR at h0 ⊢
  by_cases h1 : coinsR cs ≠ 0
  · rw [if_pos h1] at h0; exact absurd h0 h1
  rw [if_neg h1] at h0 ⊢
  have h2 : coinsR cs = 0 := by simpa using h1
  by_cases h3 : putsR cs.length (hasT cs t) t os h ≠ 0
  · rw [if_pos h3] at h0; exact absurd h0 h3
  rw [if_neg h3]
  have h4 : putsR cs.length (hasT cs t) t os h = 0 := by simpa using h3
  have hp : putFR t os h = 0 ∧ cs.length + os.length ≤ 40 := by
    unfold putsR at h4
    by_cases a : putFR t os h ≠ 0
    · rw [if_pos a] at h4; exact absurd h4 a
    rw [if_neg a] at h4
    split at h4
    · cases h4
    · split at h4
      · cases h4
      · exact ⟨by simpa using a, by omega⟩
  have ho : outsR os = 0 := by
    have := hp.1
    unfold putFR at this
    split at this
    · cases this
    · split at this
      · cases this
      · exact this
  obtain ⟨c1, c2, _⟩ := coins_rise h2
  refine ⟨by show (addCs cs (newCs t h m os os.length)).length ≤ 40; rw [addCs_len]; exact hp.2, fun j hj => ?_⟩
  have hj2 : j < cs.length + os.length := by
    have : j < (addCs cs (newCs t h m os os.length)).length := hj
    rwa [addCs_len] at this
  exact addCs_lens (Nat.le_refl _) c2 (outs_more ho) j hj2
theorem putR_zero {cs : List Co} {t h : Int} {m : Bool} {os : List Ou} (h0 : (putR cs t os h m).1 ≠ 0) : (putR cs t os h m).2 = [] := by
  unfold putR at h0 ⊢
  split
  · rfl
  · split
    · rfl
    · rename_i h1 h2
      rw [if_neg h1, if_neg h2] at h0
      exact absurd rfl h0

theorem putR_len2 (cs : List Co) (t h : Int) (m : Bool) (os : List Ou) : (putR cs t os h m).2.length ≤ 40 ∧ ∀ j, j < (putR cs t os h m).2.length → ((putR cs t os h m).2.getD j C0).l.length ≤ 3 := by
  by_cases hz : (putR cs t os h m).1 = 0
  · exact putR_lens hz
  · rw [putR_zero hz]
    exact ⟨by simp, fun j hj => by simp at hj⟩

/-- Coins under way, drawn since v. -/
structure DcS (w v V : World) (SB : Nat) (ca : Option Addr) (cn cc t : Nat) (va : Option Addr) (vc : Nat) (cs : List Co) : Prop where
  src : Src w V SB ca cn cc t
  chg : Chg v V SB (SB + 1)
  own : ∃ kv, COwn V v.heap.size V.heap.size (.slice va cs.length vc) cs.length (fun j => cs.getD j C0) kv
  len : cs.length ≤ 42 ∧ ∀ j, j < cs.length → (cs.getD j C0).l.length ≤ 3
  ord : SB < v.heap.size
section
variable {w v V V' : World} {SB cn cc t t' vc : Nat} {ca va : Option Addr} {cs : List Co}
theorem DcS.draw (h : DcS w v V SB ca cn cc t va vc cs) (hS : Src w V' SB ca cn cc t') (hc : Chg V V' SB (SB + 1)) : DcS w v V' SB ca cn cc t' va vc cs := by
  obtain ⟨kv, hk⟩ := h.own
  exact ⟨hS, h.chg.trans hc, ⟨kv, (hk.chg hc (.inr h.ord)).mono hc.size⟩, h.len, h.ord⟩
theorem DcS.step (h : DcS w v V SB ca cn cc t va vc cs) (hb : Below V.heap.size V V') : DcS w v V' SB ca cn cc t va vc cs := h.draw (h.src.step hb) (Chg.of_below hb _ _)
theorem DcS.at (h : DcS w v V SB ca cn cc t va vc cs) : CAt V va cs.length cs := by
  obtain ⟨kv, hk⟩ := h.own
  exact own_at2 hk rfl fun j hj => by have := h.len.2 j hj; omega
theorem DcS.first (hS : Src w v SB ca cn cc t) : DcS w v (v.alloc (.cells #[] 41)) SB ca cn cc t (some ⟨v.heap.size, 0, none⟩) 0 [] :=
  ⟨hS.step (below_box _), Chg.of_below (below_box _) _ _, ⟨fun _ => .slice none 0 0, ⟨⟨[], ⟨rfl, .inr ⟨v.heap.size, 0, #[], rfl, Nat.le_refl _, heap_alloc_new _ _, Nat.le_refl _, by unfold maxLen; omega, rfl, rfl⟩⟩, fun j hj => (by simp at hj)⟩, fun b hb => (by simp [Value.ownBlock] at hb; simp; omega), fun j hj => (by simp at hj), fun i j _ hj => (by simp at hj)⟩⟩, ⟨by simp, fun j hj => (by simp at hj)⟩, hS.lt⟩
end

/-- Coins that were drawn. -/
def OutDc (w v : World) (SB : Nat) (ca : Option Addr) (cn cc T : Nat) (e : Ending) (v' : World) : Prop :=
  ∃ (cs : List Co) (va : Option Addr) (n vc t' : Nat), e = .returned (.slice va n vc) ∧ n = cs.length ∧ t' ≤ T ∧ Hid (DcS w v v' SB ca cn cc t' va vc cs)

/-- What PutCoins of coins that were drawn leaves, boxed. -/
theorem put_box {w v U V : World} {SB cn cc t vc : Nat} {ca va : Option Addr} {cs rs : List Co} {cd : Int} {u : Value} {kv : Nat → Value} (h : DcS w v U SB ca cn cc t va vc cs) (hO : COwn V U.heap.size V.heap.size u rs.length (fun j => rs.getD j C0) kv) (hb : Below U.heap.size U V) (hl : rs.length ≤ 40 ∧ ∀ j, j < rs.length → (rs.getD j C0).l.length ≤ 3) :
    ∃ ua uc, u = .slice ua rs.length uc ∧ Hid (DcS w v (V.alloc (.cells #[.int .i64 cd, u] 29)) SB ca cn cc t va vc cs ∧ DcS w v (V.alloc (.cells #[.int .i64 cd, u] 29)) SB ca cn cc t ua uc rs) ∧ (V.alloc (.cells #[.int .i64 cd, u] 29)).heap[V.heap.size]? = some (.cells #[.int .i64 cd, u] 29 (0, 0)) := by
  have hbx : Below U.heap.size U (V.alloc (.cells #[.int .i64 cd, u] 29)) := hb.trans ((below_box _).mono hb.size)
  obtain ⟨ua, uc, hu⟩ : ∃ ua uc, u = .slice ua rs.length uc := by
    obtain ⟨xs, hr, _⟩ := hO.row
    rcases hr.2 with ⟨q, q0⟩ | ⟨g, cap, cur, q, _⟩
    · exact ⟨none, 0, by rw [q, q0]⟩
    · exact ⟨_, cap, q⟩
  subst hu
  have h1 := h.step hbx
  refine ⟨ua, uc, rfl, ⟨h1, h1.src, h1.chg, ⟨kv, ?_⟩, ⟨by omega, hl.2⟩, h.ord⟩, heap_alloc_new _ _⟩
  exact (hO.below (below_box _)).lower h.chg.size (by simp)

set_option maxRecDepth 20000 in
set_option maxHeartbeats 8000000 in
theorem l4Right_any (SB cn cc t : Nat) (ca : Option Addr) (l0 : List Int) (w v : World) (ht : t ≤ 600) (hcn : cn ≤ 1048576) (hB : BAt w ca cn l0) (h : Src w v SB ca cn cc t) :
    Calls Try.prog 39 #[.pointer (some ⟨SB, 0, none⟩)] v fun e v' => OutDc w v SB ca cn cc (t + 141) e v' := by
  have HBA : Hid (BAt w ca cn l0) := hB
  have HD0 : Hid (DcS w v (v.alloc (.cells #[] 41)) SB ca cn cc t (some ⟨v.heap.size, 0, none⟩) 0 []) := DcS.first h
  have h1 := l1Next_any SB cn cc t ca l0 6 w (v.alloc (.cells #[] 41)) (by omega) (by omega) hcn hB HD0.out.src
  clear hB h
  go_enter Try.func39, Try.ntmps39
  go_wp2_with (first
    | (go_at_call 18; have hq := h1; clear h1; (with_reducible refine hq.mono ?_); clear hq; rintro e v2 ⟨r1, rfl, ⟨a1, b1⟩, hS2, hc2⟩; have b1' : r1 < 6 := b1 (by omega); clear b1; have HD2 : Hid (DcS w v v2 SB ca cn cc (t + 1) (some ⟨v.heap.size, 0, none⟩) 0 []) := HD0.out.draw hS2 hc2; clear hS2 hc2 HD0))
  obtain ⟨k2, rfl⟩ := Int.eq_ofNat_of_zero_le a1
  go_loopw [3, 4] (fun u i wr => ∃ k : Nat, k ≤ 5 ∧ i = .int .i64 k ∧ ∃ (va : Option Addr) (m vc : Nat), u = .slice va m vc ∧ Hid (∃ (t' : Nat) (cs : List Co), m = cs.length ∧ DcS w v wr SB ca cn cc t' va vc cs ∧ t' + 28 * k ≤ t + 141)) (fun _ i _ => (intOf i).toNat)
  case atStart => exact ⟨k2, by omega, rfl, some ⟨v.heap.size, 0, none⟩, 0, 0, rfl, _, [], rfl, HD2.out, by omega⟩
  case round =>
    obtain ⟨k, hk, rfl, va, m, vc, rfl, HI⟩ := hrel
    obtain ⟨t', cs, hm, hD, htk⟩ := HI.out
    have HD : Hid (DcS w v wr SB ca cn cc t' va vc cs) := hD
    by_cases hk0 : 0 < k
    · obtain ⟨k', rfl⟩ : ∃ k', k = k' + 1 := ⟨k - 1, by omega⟩
      have hki : (0 : Int) < ((k' + 1 : Nat) : Int) := by omega
      have hx := l1Next_any SB cn cc t' ca l0 6 w wr (by omega) (by omega) hcn HBA.out hD.src
      subst hm
      clear HI hD
      go_wp2_with (first
        | (go_at_call 18; have hq := hx; clear hx; (with_reducible refine hq.mono ?_); clear hq; rintro e v3 ⟨r3, rfl, ⟨a3, b3⟩, hS3, hc3⟩; have b3' : r3 < 6 := b3 (by omega); clear b3; have hw3 := IntWalk.i64_in (1 + r3) (by omega); have HD3 : Hid (DcS w v v3 SB ca cn cc (t' + 1) va vc cs) := HD.out.draw hS3 hc3; have hx2 := l4DrawOuts_any SB cn cc (t' + 1) ca l0 w v3 (by omega) hcn HBA.out hS3; clear hS3 hc3)
        | (go_at_call 17; have hq := hx2; clear hx2; (with_reducible refine hq.mono ?_); clear hq; rintro e v4 ⟨os, oa, oc, t4, rfl, ho3, ht4, HO4⟩; have HD4 : Hid (DcS w v v4 SB ca cn cc t4 va vc cs) := HD3.out.draw HO4.out.src HO4.out.chg; have hx3 := l1Next_any SB cn cc t4 ca l0 6 w v4 (by omega) (by omega) hcn HBA.out HO4.out.src)
        | (go_at_call 18; have hq := hx3; clear hx3; (with_reducible refine hq.mono ?_); clear hq; rintro e v5 ⟨r5, rfl, ⟨a5, b5⟩, hS5, hc5⟩; have b5' : r5 < 6 := b5 (by omega); clear b5; have HD5 : Hid (DcS w v v5 SB ca cn cc (t4 + 1) va vc cs) := HD4.out.draw hS5 hc5; have HO5 : Hid (DoS w v3 v5 SB ca cn cc (t4 + 1) v4.heap.size oa oc os) := HO4.out.draw hS5 hc5; have hx4 := l1Chance_any SB cn cc (t4 + 1) ca l0 3 w v5 (by omega) (by omega) hcn HBA.out hS5; clear hS5 hc5)
        | (go_at_call 21; have hq := hx4; clear hx4; (with_reducible refine hq.mono ?_); clear hq; rintro e v6 ⟨r6, rfl, hS6, hc6⟩; have HD6 : Hid (DcS w v v6 SB ca cn cc (t4 + 1 + 1) va vc cs) := HD5.out.draw hS6 hc6; have HO6 : Hid (DoS w v3 v6 SB ca cn cc (t4 + 1 + 1) v4.heap.size oa oc os) := HO5.out.draw hS6 hc6; have hlc := HD6.out.len; have hx5 := sPutCoins_any cs.length vc os.length oc va oa cs (1 + r3) r5 r6 os v6 (by omega) (fun j hj => by have := hlc.2 j hj; omega) (by omega) (fun j hj => by have := HO6.out.keys j hj; omega) HD6.out.at HO6.out.at; clear hS6 hc6)
        | (go_at_call 7; have hq := hx5; clear hx5; (with_reducible refine hq.mono ?_); clear hq; rintro e v7 ⟨u7, kv7, he7, hO7, hb7⟩; have hl7 := putR_len2 cs (1 + r3) r5 r6 os; obtain ⟨rs, hrs⟩ : ∃ rs, rs = (putR cs (1 + r3) os r5 r6).2 := ⟨_, rfl⟩; obtain ⟨cd, hcd⟩ : ∃ cd, cd = (putR cs (1 + r3) os r5 r6).1 := ⟨_, rfl⟩; rw [← hrs] at hO7 hl7; rw [← hcd] at he7; subst he7; clear hrs hcd; obtain ⟨ua, uc, hu, HP7, hbx7⟩ := put_box (cd := cd) HD6.out hO7 hb7 hl7; subst hu; obtain ⟨q0, q1⟩ := cells2 hbx7; clear hO7 hb7 hbx7 hl7))
      · go_roundw
        case rel => exact ⟨k', by omega, by go_num, ua, rs.length, uc, rfl, _, rs, rfl, HP7.out.2, by omega⟩
        case measure => simp [intOf]
      · go_roundw
        case rel => exact ⟨k', by omega, by go_num, va, cs.length, vc, rfl, _, cs, rfl, HP7.out.1, by omega⟩
        case measure => simp [intOf]
    · obtain rfl : k = 0 := by omega
      subst hm
      go_wp2
      go_ret
      exact ⟨cs, va, _, vc, t', rfl, rfl, by omega, HD.out⟩

end Go.Proofs.Ytdfijlcjmllplaa
