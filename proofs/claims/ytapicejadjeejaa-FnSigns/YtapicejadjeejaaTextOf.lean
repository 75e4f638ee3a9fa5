/- What TextOf and HasSign answer: the specification's and the program's. -/
import Derived.Test.YtapicejadjeejaaIdOf
namespace Go.Proofs.Ytapicejadjeejaa
open Go.RowKit Go.Maps Go.WideMaps

theorem l1Id_any (L n tc : Nat) (ta : Option Addr) (id : Int) (w : World) (hT : w.cell? ⟨L, 0, none⟩ = some (.slice ta n tc)) :
    Calls Try.prog 25 #[.pointer (some ⟨L, 0, none⟩), .int .i64 id] w fun e w' => e = .returned (.bool (inB id 1 n)) ∧ w' = w := by
  go_enter Try.func25, Try.ntmps25
  go_wp2_with (go_at_call 35; refine (l1In_any _ _ _ _).mono ?_; rintro e w' ⟨rfl, hw⟩; have hw2 := hw.symm; subst hw2)
  go_ret
  exact ⟨rfl, rfl⟩

theorem hasNumber_any (p n cap : Nat) (a : Option Addr) (id : Int) (w : World) (hI : w.cell? ⟨p, 0, none⟩ = some (.slice a n cap)) :
    Calls Try.prog 18 #[.pointer (some ⟨p, 0, none⟩), .int .i64 id] w fun e w' => e = .returned (.bool (inB id 1 n)) ∧ w' = w := by
  go_enter Try.func18, Try.ntmps18
  go_wp2_with (first
    | (go_at_call 32; refine (countS_any p n cap a w hI).mono ?_; rintro e w' ⟨rfl, hw⟩; have hw2 := hw.symm; subst hw2)
    | (go_at_call 33; refine (isWithin_any _ _ _ _).mono ?_; rintro e w' ⟨rfl, hw⟩; have hw2 := hw.symm; subst hw2))
  go_ret
  exact ⟨rfl, rfl⟩

/-- What the texts' table gives where one block more has been laid. -/
theorem tw_items {w2 : World} {base p : Nat} {ss : List ByteArray} {n : Nat} {o : Obj} (hn : ss.length = n) (h : TwS w2 base p ss) : ∃ a cap, (w2.alloc o).cell? ⟨p, 0, none⟩ = some (.slice a n cap) ∧ Hid (SAt (w2.alloc o) a n ss) := by
  obtain ⟨a, cap, h1, _, _, h2⟩ := (h.below (below_box o)).items
  rw [hn] at h1 h2
  exact ⟨a, cap, h1, h2⟩

theorem flt_le {ss : List ByteArray} {gs : List (Int × Int)} (h : 0 = flt ss gs) : ss.length ≤ 60 ∧ gs.length ≤ 120 := by
  by_cases hb : 60 < ss.length ∨ 120 < gs.length
  · rw [flt_many rfl rfl hb] at h; omega
  · omega

end Go.Proofs.Ytapicejadjeejaa
