/- Which node is above which: the program's. -/
import Derived.Test.YtglpbkicmpmepaaNe
import Derived.Test.YtglpbkicmpmepaaLd
import Derived.LaidEqlPtr
namespace Go.Proofs.Ytglpbkicmpmepaa
open Go.RowKit Go.Maps Go.WideMaps

theorem Try.infoBr : (Try.prog.info? 103).map (fun i => (i.zero, i.size, i.bytes)) = some (some (.agg #[.int .i64 0, .int .i64 0, .int .i64 0, .pointer none]), 4, 32) := by kernel_rfl
theorem pt_same (x : Nat) (w : World) : (binOp BinOp.eql 89 (.pointer (some ⟨x, 0, none⟩)) (.pointer (some ⟨x, 0, none⟩))).run Try.prog w = .ok (.bool true) w := by
  obtain ⟨i0, hi, hz0, hz1, hz2⟩ := info_parts Try.infoBr
  exact run_eql_ptr_same w _ Try.underlying89 hi
theorem pt_other {x y : Nat} {w : World} {ca cb : Array Value} {ta tb : TypeId} (hne : x ≠ y) (ha : w.heap[x]? = some (.cells ca ta (0, 0))) (hb : w.heap[y]? = some (.cells cb tb (0, 0))) : (binOp BinOp.eql 89 (.pointer (some ⟨x, 0, none⟩)) (.pointer (some ⟨y, 0, none⟩))).run Try.prog w = .ok (.bool false) w := by
  obtain ⟨i0, hi, hz0, hz1, hz2⟩ := info_parts Try.infoBr
  exact run_eql_ptr_other w Try.underlying89 hi (by rw [hz1]; decide) (fun e => hne (congrArg Addr.block e)) ha hb
def blkP : Value → Nat
  | .pointer (some a) => a.block + 1
  | _ => 0
theorem ptr_lt {ms : List Mb} {bs : List Nat} {w : World} {lo G B : Nat} {s : Value} (h : Gv w lo G B s ms bs) {pv : Int} {j : Nat} (hj : j < ms.length) (hlt : nAt ms pv < (j : Int)) : blkP (ptrOf ms bs pv) < bs.getD j 0 + 1 := by
  rcases nAt_lt ms pv with e | ⟨i, h1, h2, _⟩
  · rw [ptrOf_none (by omega)]; simp [blkP]
  · rw [ptrOf_some h2]
    have := h.up i j (by omega) hj
    show bs.getD i 0 + 1 < _
    omega
theorem at_ne {ms : List Mb} {bs : List Nat} {w : World} {lo G B : Nat} {s : Value} (h : Gv w lo G B s ms bs) {i j : Nat} (hi : i < ms.length) (hj : j < ms.length) (hne : i ≠ j) : bs.getD i 0 ≠ bs.getD j 0 := by
  rcases Nat.lt_or_gt_of_ne hne with q | q
  · have := h.up i j q hj; omega
  · have := h.up j i q hi; omega

set_option maxRecDepth 20000 in
set_option maxHeartbeats 2000000 in
theorem iAbove_any (lo G B : Nat) (s : Value) (ms : List Mb) (bs : List Nat) (a b : Int) (w : World) (hz : treeR ms = 0) (hG : Gv w lo G B s ms bs) :
    Calls Try.prog 47 #[ptrOf ms bs a, ptrOf ms bs b] w fun e w' => e = .returned (.bool (aboveB ms a b)) ∧ w' = w := by
  have HG : Hid (Gv w lo G B s ms bs) := hG
  have HZ : Hid (treeR ms = 0) := hz
  obtain ⟨r, hr⟩ : ∃ r, r = aboveB ms a b := ⟨_, rfl⟩
  rw [← hr]
  have HR : Hid (r = aboveF ms a (ms.length + 1) b) := hr
  have HF0 : Hid (nAt ms b < ((ms.length + 1 : Nat) : Int)) := by
    show _ < _
    rcases nAt_lt ms b with e | ⟨j, h1, h2, _⟩ <;> omega
  obtain ⟨pa, hpa⟩ : ∃ p, ptrOf ms bs a = .pointer p := by
    unfold ptrOf ptB
    split
    · exact ⟨_, rfl⟩
    · exact ⟨_, rfl⟩
  obtain ⟨pb, hpb⟩ : ∃ p, ptrOf ms bs b = .pointer p := by
    unfold ptrOf ptB
    split
    · exact ⟨_, rfl⟩
    · exact ⟨_, rfl⟩
  have HPA : Hid (ptrOf ms bs a = .pointer pa) := hpa
  have HPB : Hid (ptrOf ms bs b = .pointer pb) := hpb
  rw [hpa, hpb]
  clear hG hr hz hpa hpb
  go_enter Try.func47, Try.ntmps47
  go_wp2
  go_loop [5] (fun v => ∃ (b' : Int) (f : Nat) (p : Option Addr), v = .pointer p ∧ Hid (ptrOf ms bs b' = .pointer p) ∧ Hid (r = aboveF ms a f b') ∧ Hid (nAt ms b' < (f : Int))) (fun v => blkP v)
  case atStart => exact ⟨b, _, _, rfl, HPB, HR, HF0⟩
  case round =>
    obtain ⟨b', f, p, rfl, HP, HT, HF⟩ := hrel
    rcases nAt_lt ms b' with hi | ⟨j, hj, hi, hid⟩
    · obtain rfl : p = none := by have := HP.out; rw [ptrOf_none (by omega)] at this; simpa using this.symm
      obtain rfl : r = false := by
        rw [HT.out]
        cases f with
        | zero => rfl
        | succ f =>
          rw [aboveF]
          by_cases q : b' = 0
          · rw [if_pos q]
          · rw [if_neg q, if_pos (by omega)]
      clear hi
      go_wp2
      go_ret
      exact ⟨rfl, rfl⟩
    obtain ⟨X, hX⟩ : ∃ X, X = bs.getD j 0 := ⟨_, rfl⟩
    obtain rfl : p = some ⟨X, 0, none⟩ := by have := HP.out; rw [ptrOf_some hi, ← hX] at this; simpa using this.symm
    obtain ⟨f', rfl⟩ : ∃ f', f = f' + 1 := ⟨f - 1, by have := HF.out; omega⟩
    have h0 : b' ≠ 0 := fun q => by rw [q, no_zero HZ.out] at hi; omega
    by_cases hab : a = b'
    · subst hab
      obtain rfl : r = true := by rw [HT.out, aboveF, if_neg h0, if_neg (by omega), if_pos rfl]
      obtain rfl : pa = some ⟨X, 0, none⟩ := by have := HPA.out; rw [HP.out] at this; simpa using this.symm
      have hq := pt_same X w
      clear hi hX hid
      go_wp2
      go_ret
      exact ⟨rfl, rfl⟩
    have HNE : pa = none ∨ ∃ Y, pa = some ⟨Y, 0, none⟩ ∧ (binOp BinOp.eql 89 (.pointer (some ⟨X, 0, none⟩)) (.pointer (some ⟨Y, 0, none⟩))).run Try.prog w = .ok (.bool false) w := by
      rcases nAt_lt ms a with q | ⟨i, q1, q2, q3⟩
      · left; have := HPA.out; rw [ptrOf_none (by omega)] at this; simpa using this.symm
      · right
        refine ⟨bs.getD i 0, by have := HPA.out; rw [ptrOf_some q2] at this; simpa using this.symm, ?_⟩
        rw [hX]
        exact pt_other (at_ne HG.out hj q1 (fun q => hab (by rw [← q3, ← q, hid]))) (HG.out.node j hj).1 (HG.out.node i q1).1
    obtain ⟨pv, hpv⟩ : ∃ x, x = (ms.getD j Z3).2.1 := ⟨_, rfl⟩
    have HT2 : Hid (r = aboveF ms a f' pv) := by show _ = _; rw [HT.out, aboveF, if_neg h0, if_neg (by omega), if_neg hab, hi, hpv]; simp
    have hlt : nAt ms pv < (j : Int) := by
      rcases prev_lt HZ.out hj with e | ⟨_, e⟩
      · rw [hpv, e, no_zero HZ.out]; omega
      · rw [hpv]; exact e
    have HF2 : Hid (nAt ms pv < (f' : Int)) := by show _ < _; have := HF.out; omega
    have hnode := (HG.out.node j hj).1
    rw [← hpv, ← hX] at hnode
    have hpl := ptr_lt HG.out hj hlt
    rw [← hX] at hpl
    obtain ⟨pp, hpp⟩ : ∃ p, ptrOf ms bs pv = .pointer p := by
      unfold ptrOf ptB
      split
      · exact ⟨_, rfl⟩
      · exact ⟨_, rfl⟩
    rw [hpp] at hnode hpl
    have HPP : Hid (ptrOf ms bs pv = .pointer pp) := hpp
    have x3 : w.cell? ⟨X, 3, none⟩ = some (.pointer pp) := by unfold World.cell?; rw [hnode]; rfl
    have HM : Hid (blkP (.pointer pp) < X + 1) := hpl
    clear hi hX hid hnode hpl hpp hlt hpv HT HF
    rcases HNE with rfl | ⟨Y, rfl, hq⟩
    · go_wp2
      go_round
      case rel => exact ⟨pv, f', pp, rfl, HPP, HT2, HF2⟩
      case measure => exact HM.out
    · go_wp2
      go_round
      case rel => exact ⟨pv, f', pp, rfl, HPP, HT2, HF2⟩
      case measure => exact HM.out

theorem ptr_ex (ms : List Mb) (bs : List Nat) (a : Int) : ∃ p, ptrOf ms bs a = .pointer p := by
  unfold ptrOf ptB
  split
  · exact ⟨_, rfl⟩
  · exact ⟨_, rfl⟩
theorem iAbove_ptr {lo G B : Nat} {s : Value} {ms : List Mb} {bs : List Nat} {a b : Int} {pa pb : Option Addr} {r : Bool} {w : World} (hz : treeR ms = 0) (hG : Gv w lo G B s ms bs) (ha : ptrOf ms bs a = .pointer pa) (hb : ptrOf ms bs b = .pointer pb) (hr : aboveB ms a b = r) :
    Calls Try.prog 47 #[.pointer pa, .pointer pb] w fun e w' => e = .returned (.bool r) ∧ w' = w := by
  have := iAbove_any lo G B s ms bs a b w hz hG
  rw [ha, hb, hr] at this
  exact this
theorem find_ptr {lo G B : Nat} {s : Value} {ms : List Mb} {bs : List Nat} {a : Int} {pa : Option Addr} {w : World} (hw : (Lit.int .i64 a).wf = true) (hG : Gv w lo G B s ms bs) (ha : ptrOf ms bs a = .pointer pa) :
    Calls Try.prog 46 #[.pointer (some ⟨G, 0, none⟩), .int .i64 a] w fun e w' => e = .returned (.pointer pa) ∧ w' = w := by
  have := find_any lo G B s ms bs a w hw hG
  rw [ha] at this
  exact this
end Go.Proofs.Ytglpbkicmpmepaa
