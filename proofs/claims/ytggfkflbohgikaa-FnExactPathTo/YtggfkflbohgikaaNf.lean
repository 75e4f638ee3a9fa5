/- Which node is above which: the program's. -/
import Derived.Test.YtggfkflbohgikaaNe
import Derived.Test.YtggfkflbohgikaaLd
import Derived.LaidEqlPtr
namespace Go.Proofs.Ytggfkflbohgikaa
open Go.RowKit Go.Maps Go.WideMaps

def blkP : Value → Nat
  | .pointer (some a) => a.block + 1
  | _ => 0
theorem ptr_lt {ms : List Mb} {bs : List Nat} {w : World} {lo G B : Nat} {s : Value} (h : Gv w lo G B s ms bs) {pv : Int} {j : Nat} (hj : j < ms.length) (hlt : nAt ms pv < (j : Int)) : blkP (ptrOf ms bs pv) < bs.getD j 0 + 1 := by
  rcases nAt_lt ms pv with e | ⟨i, h1, h2, _⟩
  · rw [ptrOf_none (by omega)]; simp [blkP]
  · rw [ptrOf_some h2]
    have := h.up i j (by omega) hj
    show bs.getD i 0 + 1 < _
    omega
theorem ptr_ex (ms : List Mb) (bs : List Nat) (a : Int) : ∃ p, ptrOf ms bs a = .pointer p := by
  unfold ptrOf ptB
  split
  · exact ⟨_, rfl⟩
  · exact ⟨_, rfl⟩
theorem find_ptr {lo G B : Nat} {s : Value} {ms : List Mb} {bs : List Nat} {a : Int} {pa : Option Addr} {w : World} (hw : (Lit.int .i64 a).wf = true) (hG : Gv w lo G B s ms bs) (ha : ptrOf ms bs a = .pointer pa) :
    Calls Try.prog 30 #[.pointer (some ⟨G, 0, none⟩), .int .i64 a] w fun e w' => e = .returned (.pointer pa) ∧ w' = w := by
  have := find_any lo G B s ms bs a w hw hG
  rw [ha] at this
  exact this
end Go.Proofs.Ytggfkflbohgikaa
