/- A tree and two numbers are drawn. -/
import Derived.Test.YtinlhghlmfcbfaaWc
namespace Go.Proofs.Ytinlhghlmfcbfaa
open Go.RowKit Go.Maps Go.WideMaps

set_option maxRecDepth 20000 in
set_option maxHeartbeats 4000000 in
theorem l9DrawId_any (SB cn cc t g c n : Nat) (ca : Option Addr) (l : List Int) (ms : List Mb) (w v V : World) (ht : t ≤ 900) (hcn : cn ≤ 1048576) (hB : BAt w ca cn l) (hn : ms.length = n) (hk : KT ms) (h : Dt w v V SB ca cn cc t g c ms) :
    Calls Try.prog 33 #[.pointer (some ⟨SB, 0, none⟩), .slice (some ⟨g, 0, none⟩) n c] V fun e v' => ∃ (x : Int) (t' : Nat), e = .returned (.int .i64 x) ∧ t' ≤ t + 2 ∧ (Lit.int .i64 x).wf = true ∧ Hid (Dt w v v' SB ca cn cc t' g c ms) ∧ Hid (Chg V v' SB (SB + 1)) := by
  have HB : Hid (BAt w ca cn l) := hB
  have HN : Hid (ms.length = n) := hn
  have HD : Hid (Dt w v V SB ca cn cc t g c ms) := h
  have HK : Hid (KT ms) := hk
  have hn61 : n ≤ 61 := by rw [← hn]; exact hk.2
  clear hB hn h hk
  by_cases hn0 : n = 0
  · subst hn0
    have hx := l1Next_any SB cn cc t ca l 22 w V (by omega) (by omega) hcn HB.out HD.out.src
    go_enter Try.func33, Try.ntmps33
    go_wp2_with (go_at_call 32; (with_reducible refine hx.mono ?_); clear hx; rintro e v2 ⟨r, rfl, ⟨hr0, hr1⟩, hS, hc⟩; have HD2 : Hid (Dt w v v2 SB ca cn cc (t + 1) g c ms) := HD.out.draw hS hc; have HC2 : Hid (Chg V v2 SB (SB + 1)) := hc; clear hS hc)
    go_ret
    exact ⟨r, t + 1, rfl, by omega, wf_lim (by omega) (by have := hr1 (by omega); omega), HD2.out, HC2.out⟩
  have hnp : (0 : Int) < (n : Int) := by omega
  have hch := l1Chance_any SB cn cc t ca l 10 w V (by omega) (by omega) hcn HB.out HD.out.src
  go_enter Try.func33, Try.ntmps33
  go_wp2_with (go_at_call 34; (with_reducible refine hch.mono ?_); clear hch; rintro e v2 ⟨cb, rfl, hS, hc⟩; have HD2 : Hid (Dt w v v2 SB ca cn cc (t + 1) g c ms) := HD.out.draw hS hc; have HC2 : Hid (Chg V v2 SB (SB + 1)) := hc; clear hS hc)
  · have hx := l1Next_any SB cn cc (t + 1) ca l n w v2 (by omega) (by omega) hcn HB.out HD2.out.src
    refine hx.mono ?_
    clear hx
    rintro e v3 ⟨r, rfl, ⟨hr0, hr1⟩, hS, hc⟩
    have hr2 : r < (n : Int) := hr1 (by omega)
    clear hr1
    obtain ⟨j, rfl⟩ := Int.eq_ofNat_of_zero_le hr0
    have HD3 : Hid (Dt w v v3 SB ca cn cc (t + 1 + 1) g c ms) := HD2.out.draw hS hc
    have HC3 : Hid (Chg V v3 SB (SB + 1)) := HC2.out.trans hc
    obtain ⟨x, hx⟩ : ∃ x, x = (ms.getD j Z3).1 := ⟨_, rfl⟩
    have z0 : v3.cell? ⟨g, j * 3, none⟩ = some (.int .i64 x) := (HD3.out.row.cellAt (j * 3) (by rw [HN.out]; omega)).trans (by rw [(mcells_at ms j (by rw [HN.out]; omega)).1, hx])
    have HX : Hid ((Lit.int .i64 x).wf = true) := by rw [hx]; exact (HK.out.1 j).1
    clear hS hc hx
    go_wp2_with fail
    go_ret
    exact ⟨x, t + 1 + 1, rfl, by omega, HX.out, HD3.out, HC3.out⟩
  · have hx := l1Next_any SB cn cc (t + 1) ca l 22 w v2 (by omega) (by omega) hcn HB.out HD2.out.src
    refine hx.mono ?_
    clear hx
    rintro e v3 ⟨r, rfl, ⟨hr0, hr1⟩, hS, hc⟩
    have HD3 : Hid (Dt w v v3 SB ca cn cc (t + 1 + 1) g c ms) := HD2.out.draw hS hc
    have HC3 : Hid (Chg V v3 SB (SB + 1)) := HC2.out.trans hc
    clear hS hc
    go_wp2_with fail
    go_ret
    exact ⟨r, t + 1 + 1, rfl, by omega, wf_lim (by omega) (by have := hr1 (by omega); omega), HD3.out, HC3.out⟩

end Go.Proofs.Ytinlhghlmfcbfaa
