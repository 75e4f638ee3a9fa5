/- What TextOf and HasSign answer: the specification's and the program's. -/
import Derived.Test.YtfoidaljamjpgaaIdOf
namespace Go.Proofs.Ytfoidaljamjpgaa
open Go.RowKit Go.Maps Go.WideMaps

theorem l1Id_any (L n tc : Nat) (ta : Option Addr) (id : Int) (w : World) (hT : w.cell? ⟨L, 0, none⟩ = some (.slice ta n tc)) :
    Calls Try.prog 17 #[.pointer (some ⟨L, 0, none⟩), .int .i64 id] w fun e w' => e = .returned (.bool (inB id 1 n)) ∧ w' = w := by
  go_enter Try.func17, Try.ntmps17
  go_wp2_with (go_at_call 30; refine (l1In_any _ _ _ _).mono ?_; rintro e w' ⟨rfl, hw⟩; have hw2 := hw.symm; subst hw2)
  go_ret
  exact ⟨rfl, rfl⟩

theorem hasNumber_any (p n cap : Nat) (a : Option Addr) (id : Int) (w : World) (hI : w.cell? ⟨p, 0, none⟩ = some (.slice a n cap)) :
    Calls Try.prog 38 #[.pointer (some ⟨p, 0, none⟩), .int .i64 id] w fun e w' => e = .returned (.bool (inB id 1 n)) ∧ w' = w := by
  go_enter Try.func38, Try.ntmps38
  go_wp2_with (first
    | (go_at_call 36; refine (countS_any p n cap a w hI).mono ?_; rintro e w' ⟨rfl, hw⟩; have hw2 := hw.symm; subst hw2)
    | (go_at_call 48; refine (isWithin_any _ _ _ _).mono ?_; rintro e w' ⟨rfl, hw⟩; have hw2 := hw.symm; subst hw2))
  go_ret
  exact ⟨rfl, rfl⟩

end Go.Proofs.Ytfoidaljamjpgaa
