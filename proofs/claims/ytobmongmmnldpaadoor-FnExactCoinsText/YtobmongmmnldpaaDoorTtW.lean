/- The program's words of a transaction. -/
import Derived.Test.YtobmongmmnldpaaDoorTtT
import Derived.Test.YtobmongmmnldpaaDoorRtU
import Derived.Test.YtobmongmmnldpaaDoorTxS
import Derived.Test.YtobmongmmnldpaaDoorOpT
import Derived.Test.YtobmongmmnldpaaDoorIdOf
import Derived.Test.YtobmongmmnldpaaDoorTtS
import Derived.Lib.Replace
namespace Go.Proofs.YtobmongmmnldpaaDoor
open Go.RowKit Go.Shelf Go.Maps Go.WideMaps

theorem writeNumber_big {k : Int} (h0 : 0 ≤ k) (h1 : k ≤ 1000000) (w : World) (hT : Tb w) : Calls Tryd.prog 48 #[.int .i64 k] w fun e w' => e = .returned (.string (str (dec k))) ∧ Below w.heap.size w w' := by
  have hf := Tryd.strconv_FormatInt_10 k (by omega) (by omega) w hT
  have e1 : (⟨(Lib.itoa k).toArray⟩ : ByteArray) = str (dec k) := by
    obtain ⟨n, rfl⟩ := Int.eq_ofNat_of_zero_le h0
    rw [Lib.itoa_nonneg]; rfl
  rw [e1] at hf
  obtain ⟨s, hs⟩ : ∃ s, s = str (dec k) := ⟨_, rfl⟩
  rw [← hs] at hf ⊢
  clear hT e1 hs
  go_enter Tryd.func48, Tryd.ntmps48
  go_wp2_with (go_at_call 63; refine hf.mono ?_; rintro e w' ⟨rfl, q, os, rfl⟩)
  go_ret
  exact ⟨rfl, Lib.below_grow _ _ (Nat.le_refl _) _ _⟩

theorem fieldText (q : ByteArray) (W : World) : (Instr.field 25 (.agg #[.int .i64 0, .string q]) 1).run Tryd.prog W = .ok (.string q) W := by kernel_rfl
end Go.Proofs.YtobmongmmnldpaaDoor
