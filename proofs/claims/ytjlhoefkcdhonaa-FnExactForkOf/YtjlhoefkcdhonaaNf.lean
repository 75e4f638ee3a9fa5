/- Which node is above which: the program's. -/
import Derived.Test.YtjlhoefkcdhonaaNe
import Derived.Test.YtjlhoefkcdhonaaLd
import Derived.LaidEqlPtr
namespace Go.Proofs.Ytjlhoefkcdhonaa
open Go.RowKit Go.Maps Go.WideMaps

theorem Try.infoBr : (Try.prog.info? 83).map (fun i => (i.zero, i.size, i.bytes)) = some (some (.agg #[.int .i64 0, .int .i64 0, .int .i64 0, .pointer none]), 4, 32) := by kernel_rfl
theorem pt_same (x : Nat) (w : World) : (binOp BinOp.eql 64 (.pointer (some ⟨x, 0, none⟩)) (.pointer (some ⟨x, 0, none⟩))).run Try.prog w = .ok (.bool true) w := by
  obtain ⟨i0, hi, hz0, hz1, hz2⟩ := info_parts Try.infoBr
  exact run_eql_ptr_same w _ Try.underlying64 hi
theorem pt_other {x y : Nat} {w : World} {ca cb : Array Value} {ta tb : TypeId} (hne : x ≠ y) (ha : w.heap[x]? = some (.cells ca ta (0, 0))) (hb : w.heap[y]? = some (.cells cb tb (0, 0))) : (binOp BinOp.eql 64 (.pointer (some ⟨x, 0, none⟩)) (.pointer (some ⟨y, 0, none⟩))).run Try.prog w = .ok (.bool false) w := by
  obtain ⟨i0, hi, hz0, hz1, hz2⟩ := info_parts Try.infoBr
  exact run_eql_ptr_other w Try.underlying64 hi (by rw [hz1]; decide) (fun e => hne (congrArg Addr.block e)) ha hb
def blkP : Value → Nat
  | .pointer (some a) => a.block + 1
  | _ => 0
theorem ptr_lt {ms : List Mb} {bs : List Nat} {w : World} {lo G B : Nat} {s : Value} (h : Gv w lo G B s ms bs) {pv : Int} {j : Nat} (hj : j < ms.length) (hlt : nAt ms pv < (j : Int)) : blkP (ptrOf ms bs pv) < bs.getD j 0 + 1 := by
  rcases nAt_lt ms pv with e | ⟨i, h1, h2, _⟩
  · rw [ptrOf_none (by omega)]; simp [blkP]
  · rw [ptrOf_some h2]
    have := h.up i j (by omega) hj
    show bs.getD i 0 + 1 < _
    omega
theorem at_ne {ms : List Mb} {bs : List Nat} {w : World} {lo G B : Nat} {s : Value} (h : Gv w lo G B s ms bs) {i j : Nat} (hi : i < ms.length) (hj : j < ms.length) (hne : i ≠ j) : bs.getD i 0 ≠ bs.getD j 0 := by
  rcases Nat.lt_or_gt_of_ne hne with q | q
  · have := h.up i j q hj; omega
  · have := h.up j i q hi; omega

theorem ptr_ex (ms : List Mb) (bs : List Nat) (a : Int) : ∃ p, ptrOf ms bs a = .pointer p := by
  unfold ptrOf ptB
  split
  · exact ⟨_, rfl⟩
  · exact ⟨_, rfl⟩
theorem find_ptr {lo G B : Nat} {s : Value} {ms : List Mb} {bs : List Nat} {a : Int} {pa : Option Addr} {w : World} (hw : (Lit.int .i64 a).wf = true) (hG : Gv w lo G B s ms bs) (ha : ptrOf ms bs a = .pointer pa) :
    Calls Try.prog 46 #[.pointer (some ⟨G, 0, none⟩), .int .i64 a] w fun e w' => e = .returned (.pointer pa) ∧ w' = w := by
  have := find_any lo G B s ms bs a w hw hG
  rw [ha] at this
  exact this
end Go.Proofs.Ytjlhoefkcdhonaa
