/- The program's fault of a ledger is the specification's, and the law that asks it answers true. -/
import Derived.Test.YtapicejadjeejaaTw
import Derived.Test.YtapicejadjeejaaSp
import Derived.Test.YtapicejadjeejaaLw
namespace Go.Proofs.Ytapicejadjeejaa
open Go.RowKit Go.Maps Go.WideMaps

/-- What the lists hold are values of Go: texts no longer than a length is, numbers of 64 bits. -/
structure Fine (ss : List ByteArray) (gs : List (Int × Int)) : Prop where
  s : ∀ j, (ss.getD j E0).size ≤ maxLen
  g : ∀ j, (Lit.int .i64 (gs.getD j G0).1).wf = true ∧ (Lit.int .i64 (gs.getD j G0).2).wf = true

set_option maxHeartbeats 400000 in
theorem iLedgerFault_any (n m tc gc : Nat) (ta ga : Option Addr) (ss : List ByteArray) (gs : List (Int × Int)) (w : World) (hf : Fine ss gs) (h : LedAt w ta n ga m ss gs) :
    Calls Try.prog 11 #[.agg #[.slice ta n tc, .slice ga m gc]] w fun e w' => e = .returned (.int .i64 (flt ss gs)) ∧ Below w.heap.size w w' := by
  have hbx : Below w.heap.size w (w.alloc (.cells #[.slice ta n tc, .slice ga m gc] 27)) := below_box _
  have hrl := readLedger_any n m tc gc ta ga ss gs _ hf.s hf.g (h.s.below hbx (Nat.le_refl _)) (h.g.below hbx (Nat.le_refl _))
  have HBX : Hid (Below w.heap.size w (w.alloc (.cells #[.slice ta n tc, .slice ga m gc] 27))) := hbx
  clear hbx h hf
  obtain ⟨c, hc⟩ : ∃ c, c = flt ss gs := ⟨_, rfl⟩
  have hrl' := hrl.mono fun e w' (h : RL ss gs _ w' e) => show ∃ p q, e = .returned (.tuple #[.agg #[.pointer p, .pointer q], .int .i64 c]) ∧ Below (w.alloc (.cells #[.slice ta n tc, .slice ga m gc] 27)).heap.size (w.alloc (.cells #[.slice ta n tc, .slice ga m gc] 27)) w' by
    rcases h with ⟨hb, ⟨h0, p, q, top, he, _⟩ | ⟨_, he⟩⟩
    · exact ⟨_, _, by rw [hc, h0]; exact he, hb⟩
    · exact ⟨_, _, by rw [hc]; exact he, hb⟩
  rw [← hc]
  clear hrl hc
  go_enter Try.func11, Try.ntmps11
  go_wp2_with (first | (go_at_call 16; refine hrl'.mono ?_; rintro e w2 ⟨p, q, rfl, hb2⟩))
  go_ret
  exact ⟨rfl, (HBX.out.trans (hb2.mono (by simp))).alloc (by have := hb2.size; simp at this; omega) _⟩


end Go.Proofs.Ytapicejadjeejaa
