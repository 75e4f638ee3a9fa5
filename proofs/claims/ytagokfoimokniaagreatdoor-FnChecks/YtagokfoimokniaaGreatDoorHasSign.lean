/- What HasSign answers: the specification's and the program's. -/
import Derived.Test.YtagokfoimokniaaGreatDoorJn1
namespace Go.Proofs.YtagokfoimokniaaGreatDoor
open Go.RowKit Go.Maps Go.WideMaps

theorem l1Has_any (L m gc : Nat) (ga : Option Addr) (gs : List (Int × Int)) (a b : Int) (w : World) (hm : m ≤ maxLen) (hG : w.cell? ⟨L, 1, none⟩ = some (.slice ga m gc)) (hg : GAt w ga m gs) :
    Calls Tryz.prog 71 #[.pointer (some ⟨L, 0, none⟩), .int .i64 a, .int .i64 b] w fun e w' => e = .returned (.bool (memB gs (a, b))) ∧ Below w.heap.size w w' := by
  have hsg := l1Signed_any ga m gc gs a b w hm hg
  clear hg
  go_enter Tryz.func71, Tryz.ntmps71
  go_wp2_with (go_at_call 61; refine hsg.mono ?_; rintro e w' ⟨rfl, hb⟩)
  go_ret
  exact ⟨rfl, hb⟩

set_option maxHeartbeats 1000000 in
theorem bookHas_any (pp : Option Addr) (q top : Nat) (gs : List (Int × Int)) (a b : Int) (w : World) (ha : (Lit.int .i64 a).wf = true) (hb : (Lit.int .i64 b).wf = true) (hT : TwG w top q gs) :
    Calls Tryz.prog 114 #[.agg #[.pointer pp, .pointer (some ⟨q, 0, none⟩)], .int .i64 a, .int .i64 b] w fun e w' => e = .returned (.bool (memB gs (a, b))) ∧ Below w.heap.size w w' := by
  have hbx : Below w.heap.size w (w.alloc (.cells #[.pointer pp, .pointer (some ⟨q, 0, none⟩)] 71)) := below_box _
  have hat := numG_tw ha hb (hT.below (below_box (.cells #[.pointer pp, .pointer (some ⟨q, 0, none⟩)] 71)))
  obtain ⟨s0, s1⟩ := cells2 (heap_alloc_new w (.cells #[.pointer pp, .pointer (some ⟨q, 0, none⟩)] 71))
  obtain ⟨k, hk⟩ : ∃ k, k = num gs (a, b) := ⟨_, rfl⟩
  have hmk : memB gs (a, b) = (k != 0) := by unfold memB; rw [hk]
  rw [← hk] at hat
  rw [hmk]
  have HBX : Hid (Below w.heap.size w (w.alloc (.cells #[.pointer pp, .pointer (some ⟨q, 0, none⟩)] 71))) := hbx
  clear hmk hk hT hbx ha hb
  by_cases hk0 : k = 0
  · subst hk0
    go_enter Tryz.func114, Tryz.ntmps114
    go_wp2_with (go_at_call 147; (with_reducible refine hat.mono ?_); clear hat; rintro e w3 ⟨rfl, hb3⟩)
    go_ret
    exact ⟨rfl, HBX.out.trans (hb3.mono HBX.out.size)⟩
  · have hki : (k : Int) ≠ 0 := by omega
    have hkb : (k != 0) = true := by simp [hk0]
    rw [hkb]
    clear hk0 hkb
    go_enter Tryz.func114, Tryz.ntmps114
    go_wp2_with (go_at_call 147; (with_reducible refine hat.mono ?_); clear hat; rintro e w3 ⟨rfl, hb3⟩)
    go_ret
    exact ⟨ret_bool (by simp; omega), HBX.out.trans (hb3.mono HBX.out.size)⟩

end Go.Proofs.YtagokfoimokniaaGreatDoor
