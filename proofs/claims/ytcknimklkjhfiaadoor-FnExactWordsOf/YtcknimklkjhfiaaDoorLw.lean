/- What the laws' own helpers do with a ledger that came in: its size is told, it is copied into new memory, two are compared. The laws' own copies and comparisons of ledgers. The laws' own copies and comparisons of signatures and of whole ledgers. The laws' own copies, sizes and comparisons of whole ledgers. -/
import Derived.Test.YtcknimklkjhfiaaDoorBase
import Derived.Deep.QuietTactic
import Derived.BigQuiet
import Derived.Lib.SmallJoins
import Derived.Deep.RegionHeld3
namespace Go.Proofs.YtcknimklkjhfiaaDoor
open Go.RowKit Go.Maps

end Go.Proofs.YtcknimklkjhfiaaDoor

namespace Go.Proofs.YtcknimklkjhfiaaDoor
open Go.RowKit Go.Maps

end Go.Proofs.YtcknimklkjhfiaaDoor

namespace Go.Proofs.YtcknimklkjhfiaaDoor
open Go.RowKit Go.Maps

set_option maxHeartbeats 400000 in
theorem eqS_any (a b : Option Addr) (n c1 c2 : Nat) (ss : List ByteArray) (w : World) (hl : n ≤ 1048576) (ha : SAt w a n ss) (hb : SAt w b n ss) :
    Calls Tryd.prog 11 #[.slice a n c1, .slice b n c2] w fun e w' => e = .returned (.bool true) ∧ Below w.heap.size w w' := by
  have HA : Hid (SAt w a n ss) := ha
  have HB : Hid (SAt w b n ss) := hb
  clear ha hb
  go_enter Tryd.func11, Tryd.ntmps11
  go_wp2
  go_loopw [5] (fun i wr => ∃ k : Nat, k ≤ n ∧ i = .int .i64 k ∧ Below w.heap.size w wr) (fun i _ => n - (intOf i).toNat)
  case atStart => exact ⟨0, Nat.zero_le _, rfl, Below.refl _ _⟩
  case round =>
    obtain ⟨k, hk, rfl, hbel⟩ := hrel
    by_cases hlt : k < n
    · rcases HA.out.2 with h0 | ⟨b0, o0, e0, l0, d0⟩
      · omega
      subst e0
      rcases HB.out.2 with h0 | ⟨b1, o1, e1, l1, d1⟩
      · omega
      subst e1
      obtain ⟨s, hs⟩ : ∃ s, s = ss.getD k E0 := ⟨_, rfl⟩
      have x0 := (hbel.cell (p := ⟨b0, o0 + k, none⟩) l0).trans (d0 k hlt)
      have x1 := (hbel.cell (p := ⟨b1, o1 + k, none⟩) l1).trans (d1 k hlt)
      rw [← hs] at x0 x1
      clear hs d0 d1
      have hki : (k : Int) < (n : Int) := by omega
      go_wp2
      go_quiet (fail)
      go_wp2
      go_roundw
      case rel => exact ⟨k + 1, by omega, by go_num, hbel.trans (Joins.below_draws _ _ _)⟩
      case measure => simp [intOf]; omega
    · go_wp2
      go_ret
      exact ⟨rfl, hbel⟩

end Go.Proofs.YtcknimklkjhfiaaDoor

namespace Go.Proofs.YtcknimklkjhfiaaDoor
open Go.RowKit Go.Maps

theorem below_box {w : World} (o : Obj) : Below w.heap.size w (w.alloc o) := (Below.refl _ _).alloc (Nat.le_refl _) _
theorem below_box2 {w : World} (o o' : Obj) : Below w.heap.size w ((w.alloc o).alloc o') := (below_box o).alloc (by simp) _
theorem block_at2 {w : World} {o o' : Obj} : ((w.alloc o).alloc o').heap[w.heap.size]? = some o := (Below.heap_alloc _ _ _ (by simp)).trans (heap_alloc_new w o)

end Go.Proofs.YtcknimklkjhfiaaDoor
