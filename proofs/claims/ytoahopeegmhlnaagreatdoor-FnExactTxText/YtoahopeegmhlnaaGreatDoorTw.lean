/- The program's two-way tables: a slice of what is noted and a map from it to its number, behind a pointer; what their methods do. What the program's own reading of a ledger comes to: the tables of its texts, or the first fault. The program's table of signatures, as the one of texts. A new signature is put into the table: the slice one longer, the map one more. What the program's own reading of the signatures comes to. What the program's own reading of a whole ledger comes to: the two tables, or its fault. -/
import Derived.Test.YtoahopeegmhlnaaGreatDoorBase
import Derived.Deep.QuietTactic
import Derived.BigQuiet
import Derived.Lib.SmallJoins
import Derived.Deep.RegionHeld3
import Derived.Deep.AppendLies
import Derived.DeepKeys4
import Derived.Deep.DrawnRows
import Derived.Deep.RegionLaw
namespace Go.Proofs.YtoahopeegmhlnaaGreatDoor
open Go.RowKit Go.Maps Go.WideMaps

theorem Tryz.laidOut : laidOutB Tryz.prog = true := by kernel_rfl

end Go.Proofs.YtoahopeegmhlnaaGreatDoor

namespace Go.Proofs.YtoahopeegmhlnaaGreatDoor
open Go.RowKit Go.Maps Go.WideMaps

theorem isWithin_any (v lo hi : Int) (w : World) : Calls Tryz.prog 50 #[.int .i64 v, .int .i64 lo, .int .i64 hi] w fun e w' => e = .returned (.bool (inB v lo hi)) ∧ w' = w := by
  by_cases h1 : lo ≤ v
  · by_cases h2 : v ≤ hi
    · have hb : inB v lo hi = true := by simp [inB, h1, h2]
      rw [hb]
      go_enter Tryz.func50, Tryz.ntmps50
      go_wp2
      go_ret
      exact ⟨rfl, rfl⟩
    · have hb : inB v lo hi = false := by simp [inB, h2]
      rw [hb]
      go_enter Tryz.func50, Tryz.ntmps50
      go_wp2
      go_ret
      exact ⟨rfl, rfl⟩
  · have hb : inB v lo hi = false := by simp [inB, h1]
    rw [hb]
    go_enter Tryz.func50, Tryz.ntmps50
    go_wp2
    go_ret
    exact ⟨rfl, rfl⟩

theorem isKey_any (v : Int) (w : World) : Calls Tryz.prog 49 #[.int .i64 v] w fun e w' => e = .returned (.bool (inB v 1 999)) ∧ w' = w := by
  go_enter Tryz.func49, Tryz.ntmps49
  go_wp2_with (go_at_call 50; refine (isWithin_any _ _ _ _).mono ?_; rintro e w' ⟨rfl, rfl⟩)
  go_ret
  exact ⟨rfl, rfl⟩

end Go.Proofs.YtoahopeegmhlnaaGreatDoor

namespace Go.Proofs.YtoahopeegmhlnaaGreatDoor
open Go.RowKit Go.Maps Go.WideMaps

theorem Tryz.cellsI64 : Tryz.prog.cellsOf 2 = 1 := by kernel_rfl
theorem grown_of_below {w w' : World} (h : Below w.heap.size w w') : w.grownBy w' none := ⟨h.os, h.tape, h.output, h.size, fun k hk _ => h.block k hk⟩

end Go.Proofs.YtoahopeegmhlnaaGreatDoor

namespace Go.Proofs.YtoahopeegmhlnaaGreatDoor
open Go.RowKit Go.Maps Go.WideMaps
attribute [local go_sem ↓] Go.wp_at_zero Go.wp_at_succ

end Go.Proofs.YtoahopeegmhlnaaGreatDoor

namespace Go.Proofs.YtoahopeegmhlnaaGreatDoor
open Go.RowKit Go.Maps Go.WideMaps

end Go.Proofs.YtoahopeegmhlnaaGreatDoor

namespace Go.Proofs.YtoahopeegmhlnaaGreatDoor
open Go.RowKit Go.Maps Go.WideMaps

end Go.Proofs.YtoahopeegmhlnaaGreatDoor
