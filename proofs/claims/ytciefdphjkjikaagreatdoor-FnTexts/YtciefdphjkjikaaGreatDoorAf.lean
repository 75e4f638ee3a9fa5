/- A number is read loosely: the program's looseNumber. -/
import Derived.Test.YtciefdphjkjikaaGreatDoorAe
import Derived.Test.YtciefdphjkjikaaGreatDoorJn3
import Derived.Test.YtciefdphjkjikaaGreatDoorSh
namespace Go.Proofs.YtciefdphjkjikaaGreatDoor
open Go.RowKit Go.Shelf Go.Maps Go.WideMaps

/-- The library's two errors hold an error each, or none. -/
structure Erv (w : World) : Prop where
  sy : ∃ ev, w.cell? ⟨5, 0, none⟩ = some ev ∧ (ev = .nilIface ∨ ∃ te pe, ev = .iface te pe)
  rg : ∃ ev, w.cell? ⟨6, 0, none⟩ = some ev ∧ (ev = .nilIface ∨ ∃ te pe, ev = .iface te pe)
theorem Erv.below {w w' : World} (h : Erv w) (hb : Below w.heap.size w w') : Erv w' := by
  obtain ⟨⟨a, a1, a2⟩, b, b1, b2⟩ := h
  exact ⟨⟨a, (hb.cell (p := ⟨5, 0, none⟩) (World.block_lt_of_cell? _ _ a1)).trans a1, a2⟩, b, (hb.cell (p := ⟨6, 0, none⟩) (World.block_lt_of_cell? _ _ b1)).trans b1, b2⟩

set_option maxRecDepth 20000 in
set_option maxHeartbeats 2000000 in
theorem looseNumber_any (s : List UInt8) (w : World) (hs : s.length ≤ 1048576) (hE : Erv w) :
    Calls Tryz.prog 86 #[.string (str s)] w fun e w' => e = .returned (.int .i64 (looseN s)) ∧ Below w.heap.size w w' := by
  have el : (str s).data.toList = s := by simp [str]
  have ez : (str s).size = s.length := by show s.toArray.size = _; simp
  unfold looseN
  cases hp : Lib.parseIntB 64 s with
  | ok v =>
    have hc := Tryz.strconv_ParseInt_10_at64_ok (str s) (by rw [ez]; omega) v (by rw [el]; exact hp) w
    have hc2 : Calls Tryz.prog 100 #[.string (str s), .int .i64 10, .int .i64 64] w fun e w' => e = .returned (.tuple #[.int .i64 v, .nilIface]) ∧ Hid (Below w.heap.size w w') := hc.mono fun e w' h => ⟨h.1, by
      rcases h.2 with e1 | ⟨t, e1⟩
      · rw [e1]; exact Below.refl _ _
      · rw [e1]; exact bytes_below _ _ _⟩
    clear hc hp hE el ez
    simp only
    go_enter Tryz.func86, Tryz.ntmps86
    go_wp2_with (first
      | (go_at_call 100; (with_reducible refine hc2.mono ?_); clear hc2; rintro e w2 ⟨rfl, HB⟩))
    go_ret
    exact ⟨rfl, HB.out⟩
  | «syntax» =>
    obtain ⟨ev, e1, e2⟩ := hE.sy
    have hc := Tryz.strconv_ParseInt_10_at64_syntax (str s) (by rw [ez]; omega) (by rw [el]; exact hp) ev w e1 e2
    have hc2 : Calls Tryz.prog 100 #[.string (str s), .int .i64 10, .int .i64 64] w fun e w' => ∃ T N, e = .returned (.tuple #[.int .i64 0, .iface T (.pointer (some ⟨N, 0, none⟩))]) ∧ Hid (Below w.heap.size w w') := hc.mono fun e w' ⟨N, h1, _, _, h4⟩ => ⟨_, N, h1, h4⟩
    clear hc hp hE el ez e1 e2
    simp only
    go_enter Tryz.func86, Tryz.ntmps86
    go_wp2_with (first
      | (go_at_call 100; (with_reducible refine hc2.mono ?_); clear hc2; rintro e w2 ⟨T, N, rfl, HB⟩))
    go_ret
    exact ⟨rfl, HB.out⟩
  | range =>
    obtain ⟨ev, e1, e2⟩ := hE.rg
    have hc := Tryz.strconv_ParseInt_10_at64_range (str s) (by rw [ez]; omega) (by rw [el]; exact hp) ev w e1 e2
    have hc2 : Calls Tryz.prog 100 #[.string (str s), .int .i64 10, .int .i64 64] w fun e w' => ∃ z T N, e = .returned (.tuple #[.int .i64 z, .iface T (.pointer (some ⟨N, 0, none⟩))]) ∧ Hid (Below w.heap.size w w') := hc.mono fun e w' ⟨N, h1, _, _, h4⟩ => ⟨_, _, N, h1, h4⟩
    clear hc hp hE el ez e1 e2
    simp only
    go_enter Tryz.func86, Tryz.ntmps86
    go_wp2_with (first
      | (go_at_call 100; (with_reducible refine hc2.mono ?_); clear hc2; rintro e w2 ⟨z, T, N, rfl, HB⟩))
    go_ret
    exact ⟨rfl, HB.out⟩

end Go.Proofs.YtciefdphjkjikaaGreatDoor
