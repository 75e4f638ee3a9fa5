/- BlockIn: the specification's and the program's. -/
import Derived.Test.YtppfhepipadepaaGreatDoorJn1
import Derived.Test.YtppfhepipadepaaGreatDoorGd
import Derived.Test.YtppfhepipadepaaGreatDoorGc
import Derived.Scope
import Derived.WalkMore
import Derived.Deep.DeepCutAuto
import Derived.Test.YtppfhepipadepaaGreatDoorJn3
import Derived.Test.YtppfhepipadepaaGreatDoorTtX
import Derived.Test.YtppfhepipadepaaGreatDoorFc
import Derived.Test.YtppfhepipadepaaGreatDoorTtY
namespace Go.Proofs.YtppfhepipadepaaGreatDoor
open Go.RowKit Go.Shelf Go.Maps Go.WideMaps

theorem tx2R_len {ss : List ByteArray} {n : Nat} (id : Int) (hn : ss.length = n) (hz : ∀ j, j < n → (ss.getD j E0).size ≤ 1048576) : (tx2R ss id).2.data.toList.length ≤ 1048576 := by
  unfold tx2R
  by_cases h : inB id 1 ss.length = false
  · rw [if_pos h]; simp
  · rw [if_neg h]
    have h1 : inB id 1 ss.length = true := by simpa using h
    have h2 := inB_true.1 h1
    exact hz (id - 1).toNat (by omega)
theorem textR_len {ss : List ByteArray} {gs : List (Int × Int)} {n : Nat} (id : Int) (hn : ss.length = n) (hz : ∀ j, j < n → (ss.getD j E0).size ≤ 1048576) : (textR ss gs id).2.data.toList.length ≤ 1048576 := by
  unfold textR
  by_cases h : flt ss gs ≠ 0
  · rw [if_pos h]; simp
  · rw [if_neg h]; exact tx2R_len id hn hz
theorem readG_ok {v : World} {n m tc gc : Nat} {ta ga : Option Addr} {ss : List ByteArray} {gs : List (Int × Int)} (hf : Fine ss gs) (h : LedAt v ta n ga m ss gs) (h0 : 0 = flt ss gs) :
    Calls Tryz.prog 19 #[.agg #[.slice ta n tc, .slice ga m gc]] v fun e w' => ∃ p q, e = .returned (.tuple #[.agg #[.pointer (some ⟨p, 0, none⟩), .pointer (some ⟨q, 0, none⟩)], .int .i64 0]) ∧ Below v.heap.size v w' ∧ Hid (TwS w' v.heap.size p ss) := by
  refine (readLedger_any n m tc gc ta ga ss gs v hf.s hf.g h.s h.g).mono fun e w' hr => ?_
  rcases hr with ⟨hbl, ⟨_, p, q, top, he, h1, _⟩ | ⟨hn, _⟩⟩
  · exact ⟨p, q, he, hbl, h1⟩
  · exact absurd h0.symm hn
theorem readG_bad {v : World} {n m tc gc : Nat} {ta ga : Option Addr} {ss : List ByteArray} {gs : List (Int × Int)} {c : Int} (hf : Fine ss gs) (h : LedAt v ta n ga m ss gs) (hc : c = flt ss gs) (h0 : ¬ c = 0) :
    Calls Tryz.prog 19 #[.agg #[.slice ta n tc, .slice ga m gc]] v fun e w' => e = .returned (.tuple #[.agg #[.pointer none, .pointer none], .int .i64 c]) ∧ Below v.heap.size v w' := by
  refine (readLedger_any n m tc gc ta ga ss gs v hf.s hf.g h.s h.g).mono fun e w' hr => ?_
  rcases hr with ⟨hbl, ⟨hn, _⟩ | ⟨_, he⟩⟩
  · exact absurd (hc.trans hn) h0
  · exact ⟨by rw [hc]; exact he, hbl⟩

end Go.Proofs.YtppfhepipadepaaGreatDoor
