/- Where two ways back meet: the program's; nodes of numbers, all of them. -/
import Derived.Test.YtinlhghlmfcbfaaNf
import Derived.Test.YtinlhghlmfcbfaaLf
import Derived.WalkMore
namespace Go.Proofs.Ytinlhghlmfcbfaa
open Go.RowKit Go.Maps Go.WideMaps

theorem number_nil (w : World) : Calls Try.prog 22 #[.pointer none] w fun e w' => e = .returned (.int .i64 0) ∧ w' = w := by
  go_enter Try.func22, Try.ntmps22
  go_wp2
  go_ret
  exact ⟨rfl, rfl⟩
theorem number_some (b : Nat) (h : Int) (w : World) (hc : w.cell? ⟨b, 0, none⟩ = some (.int .i64 h)) : Calls Try.prog 22 #[.pointer (some ⟨b, 0, none⟩)] w fun e w' => e = .returned (.int .i64 h) ∧ w' = w := by
  go_enter Try.func22, Try.ntmps22
  go_wp2
  go_ret
  exact ⟨rfl, rfl⟩
theorem number_ptr {lo G B : Nat} {s : Value} {ms : List Mb} {bs : List Nat} {x : Int} {p : Option Addr} {w : World} (hG : Gv w lo G B s ms bs) (hp : ptrOf ms bs x = .pointer p) (hx : x = 0 ∨ 0 ≤ nAt ms x) :
    Calls Try.prog 22 #[.pointer p] w fun e w' => e = .returned (.int .i64 x) ∧ w' = w := by
  rcases nAt_lt ms x with e | ⟨j, h1, h2, h3⟩
  · rcases hx with rfl | hx
    · rw [ptrOf_none (by omega)] at hp
      cases hp
      exact number_nil w
    · omega
  · rw [ptrOf_some h2] at hp
    cases hp
    have hb := (hG.node j h1).1
    exact number_some _ _ w (by unfold World.cell?; rw [hb, h3]; rfl)

theorem fork_in {ms : List Mb} (hz : treeR ms = 0) (b : Int) : ∀ f a, (a = 0 ∨ 0 ≤ nAt ms a) → forkF ms b f a = 0 ∨ 0 ≤ nAt ms (forkF ms b f a) := by
  intro f
  induction f with
  | zero => intro a _; exact .inl rfl
  | succ f ih =>
    intro a ha
    rw [forkF]
    by_cases h0 : a = 0
    · rw [if_pos h0]; exact .inl rfl
    · rw [if_neg h0]
      by_cases h1 : aboveB ms a b = true
      · rw [if_pos h1]; exact ha
      · rw [if_neg h1]
        refine ih _ ?_
        rcases nAt_lt ms a with e | ⟨j, q1, q2, _⟩
        · rcases ha with e2 | e2
          · exact absurd e2 h0
          · omega
        · rw [q2]
          simp only [Int.toNat_natCast]
          rcases prev_lt hz q1 with e | ⟨e, _⟩
          · exact .inl e
          · exact .inr e

set_option maxRecDepth 20000 in
set_option maxHeartbeats 4000000 in
theorem forkWith_any (lo G B : Nat) (s : Value) (ms : List Mb) (bs : List Nat) (a b : Int) (pa pb : Option Addr) (w : World) (hz : treeR ms = 0) (hG : Gv w lo G B s ms bs) (ha : ptrOf ms bs a = .pointer pa) (hb : ptrOf ms bs b = .pointer pb) (hia : a = 0 ∨ 0 ≤ nAt ms a) :
    Calls Try.prog 21 #[.pointer pa, .pointer pb] w fun e w' => ∃ p, e = .returned (.pointer p) ∧ w' = w ∧ Hid (ptrOf ms bs (forkF ms b (ms.length + 1) a) = .pointer p) := by
  have HG : Hid (Gv w lo G B s ms bs) := hG
  have HZ : Hid (treeR ms = 0) := hz
  obtain ⟨r, hr⟩ : ∃ r, r = forkF ms b (ms.length + 1) a := ⟨_, rfl⟩
  rw [← hr]
  have HR : Hid (r = forkF ms b (ms.length + 1) a) := hr
  have HF0 : Hid (nAt ms a < ((ms.length + 1 : Nat) : Int)) := by
    show _ < _
    rcases nAt_lt ms a with e | ⟨j, h1, h2, _⟩ <;> omega
  have HPA : Hid (ptrOf ms bs a = .pointer pa) := ha
  have HPB : Hid (ptrOf ms bs b = .pointer pb) := hb
  have HIA : Hid (a = 0 ∨ 0 ≤ nAt ms a) := hia
  have HB0 : Hid (nAt ms b < ((ms.length + 1 : Nat) : Int)) := by
    show _ < _
    rcases nAt_lt ms b with e | ⟨j, h1, h2, _⟩ <;> omega
  clear hG hr hz ha hb hia
  go_enter Try.func21, Try.ntmps21
  go_wp2
  go_step3
  go_wp2
  go_step3
  go_wp2
  go_loop [5, 6] (fun u v => ∃ (a' : Int) (f : Nat) (p : Option Addr), u = .pointer none ∧ v = .pointer p ∧ Hid (ptrOf ms bs a' = .pointer p) ∧ Hid (r = forkF ms b f a') ∧ Hid (nAt ms a' < (f : Int)) ∧ Hid (a' = 0 ∨ 0 ≤ nAt ms a')) (fun _ v => blkP v)
  case atStart => exact ⟨a, _, _, rfl, rfl, HPA, HR, HF0, HIA⟩
  case round =>
    obtain ⟨a', f, p, rfl, rfl, HP, HT, HF, HI⟩ := hrel
    rcases nAt_lt ms a' with hi | ⟨j, hj, hi, hid⟩
    · obtain rfl : p = none := by have := HP.out; rw [ptrOf_none (by omega)] at this; simpa using this.symm
      obtain rfl : a' = 0 := by rcases HI.out with q | q; exact q; omega
      obtain rfl : r = 0 := by
        rw [HT.out]
        cases f with
        | zero => rfl
        | succ f => rw [forkF, if_pos rfl]
      clear hi
      go_wp2
      go_ret
      exact ⟨none, rfl, rfl, HP⟩
    obtain ⟨X, hX⟩ : ∃ X, X = bs.getD j 0 := ⟨_, rfl⟩
    obtain rfl : p = some ⟨X, 0, none⟩ := by have := HP.out; rw [ptrOf_some hi, ← hX] at this; simpa using this.symm
    obtain ⟨f', rfl⟩ : ∃ f', f = f' + 1 := ⟨f - 1, by have := HF.out; omega⟩
    have h0 : a' ≠ 0 := fun q => by rw [q, no_zero HZ.out] at hi; omega
    obtain ⟨ab, hab⟩ : ∃ x, x = aboveB ms a' b := ⟨_, rfl⟩
    have HAB : Hid (ab = aboveF ms a' (ms.length + 1) b) := hab
    obtain ⟨pv, hpv⟩ : ∃ x, x = (ms.getD j Z3).2.1 := ⟨_, rfl⟩
    have HT1 : Hid (ab = true → r = a') := fun q => by rw [HT.out, forkF, if_neg h0, if_pos (by rw [← hab]; exact q)]
    have HT2 : Hid (ab = false → r = forkF ms b f' pv) := fun q => by rw [HT.out, forkF, if_neg h0, if_neg (by rw [← hab, q]; simp), hi, hpv]; simp
    have hpl0 := prev_lt HZ.out hj
    rw [← hpv] at hpl0
    have hlt : nAt ms pv < (j : Int) := by
      rcases hpl0 with e | ⟨_, e⟩
      · rw [e, no_zero HZ.out]; omega
      · exact e
    have HI2 : Hid (pv = 0 ∨ 0 ≤ nAt ms pv) := by
      rcases hpl0 with e | ⟨e, _⟩
      · exact .inl e
      · exact .inr e
    have HF2 : Hid (nAt ms pv < (f' : Int)) := by show _ < _; have := HF.out; omega
    have hnode := (HG.out.node j hj).1
    rw [← hpv, ← hX] at hnode
    have hpl := ptr_lt HG.out hj hlt
    rw [← hX] at hpl
    obtain ⟨pp, hpp⟩ := ptr_ex ms bs pv
    rw [hpp] at hnode hpl
    have HPP : Hid (ptrOf ms bs pv = .pointer pp) := hpp
    have x3 : w.cell? ⟨X, 3, none⟩ = some (.pointer pp) := by unfold World.cell?; rw [hnode]; rfl
    have HM : Hid (blkP (.pointer pp) < X + 1) := hpl
    have HJ : Hid (j < ms.length ∧ nAt ms a' = (j : Int) ∧ X = bs.getD j 0 ∧ (ms.getD j Z3).1 = a') := ⟨hj, hi, hX, hid⟩
    clear hi hX hid hnode hpl hpp hlt hpv HT HF hj hab hpl0 h0
    go_wp2
    go_loop [5, 7] (fun u v => ∃ (b' : Int) (f : Nat) (q : Option Addr), u = .pointer none ∧ v = .pointer q ∧ Hid (ptrOf ms bs b' = .pointer q) ∧ Hid (ab = aboveF ms a' f b') ∧ Hid (nAt ms b' < (f : Int))) (fun _ v => blkP v)
    case atStart => exact ⟨b, _, _, rfl, rfl, HPB, HAB, HB0⟩
    case round =>
      obtain ⟨b', g, q, rfl, rfl, HQ, HTb, HFb⟩ := hrel
      rcases nAt_lt ms b' with hi | ⟨i, hj, hi, hid⟩
      · obtain rfl : q = none := by have := HQ.out; rw [ptrOf_none (by omega)] at this; simpa using this.symm
        obtain rfl : ab = false := by
          rw [HTb.out]
          cases g with
          | zero => rfl
          | succ g =>
            rw [aboveF]
            by_cases q : b' = 0
            · rw [if_pos q]
            · rw [if_neg q, if_pos (by omega)]
        clear hi
        go_wp2
        go_round
        case rel => exact ⟨pv, f', pp, rfl, rfl, HPP, HT2.out rfl, HF2, HI2⟩
        case measure => exact HM.out
      obtain ⟨Y, hY⟩ : ∃ X, X = bs.getD i 0 := ⟨_, rfl⟩
      obtain rfl : q = some ⟨Y, 0, none⟩ := by have := HQ.out; rw [ptrOf_some hi, ← hY] at this; simpa using this.symm
      obtain ⟨g', rfl⟩ : ∃ g', g = g' + 1 := ⟨g - 1, by have := HFb.out; omega⟩
      have h0 : b' ≠ 0 := fun q => by rw [q, no_zero HZ.out] at hi; omega
      by_cases hab : a' = b'
      · subst hab
        have habt : ab = true := by rw [HTb.out, aboveF, if_neg h0, if_neg (by omega), if_pos rfl]
        obtain rfl : r = a' := HT1.out habt
        obtain rfl : Y = X := by have := HP.out; rw [HQ.out] at this; simpa using this
        have hq := pt_same Y w
        clear hi hY hid habt
        go_wp2
        try rw [Exit.noGoto_ret]
        go_ret
        exact ⟨_, rfl, rfl, HP⟩
      have hq : (binOp BinOp.eql 50 (.pointer (some ⟨X, 0, none⟩)) (.pointer (some ⟨Y, 0, none⟩))).run Try.prog w = .ok (.bool false) w := by
        obtain ⟨j1, j2, j3, j4⟩ := HJ.out
        rw [hY, j3]
        exact pt_other (at_ne HG.out j1 hj (fun q => hab (by rw [← j4, q, hid]))) (HG.out.node j j1).1 (HG.out.node i hj).1
      obtain ⟨bv, hbv⟩ : ∃ x, x = (ms.getD i Z3).2.1 := ⟨_, rfl⟩
      have HTb2 : Hid (ab = aboveF ms a' g' bv) := by show _ = _; rw [HTb.out, aboveF, if_neg h0, if_neg (by omega), if_neg hab, hi, hbv]; simp
      have hlt : nAt ms bv < (i : Int) := by
        rcases prev_lt HZ.out hj with e | ⟨_, e⟩
        · rw [hbv, e, no_zero HZ.out]; omega
        · rw [hbv]; exact e
      have HFb2 : Hid (nAt ms bv < (g' : Int)) := by show _ < _; have := HFb.out; omega
      have hnode := (HG.out.node i hj).1
      rw [← hbv, ← hY] at hnode
      have hpl := ptr_lt HG.out hj hlt
      rw [← hY] at hpl
      obtain ⟨qq, hqq⟩ := ptr_ex ms bs bv
      rw [hqq] at hnode hpl
      have HQQ : Hid (ptrOf ms bs bv = .pointer qq) := hqq
      have y3 : w.cell? ⟨Y, 3, none⟩ = some (.pointer qq) := by unfold World.cell?; rw [hnode]; rfl
      have HMb : Hid (blkP (.pointer qq) < Y + 1) := hpl
      clear hi hY hid hnode hpl hqq hlt hbv HTb HFb hj h0 hab
      go_wp2
      go_round
      case rel => exact ⟨bv, g', qq, rfl, rfl, HQQ, HTb2, HFb2⟩
      case measure => exact HMb.out

end Go.Proofs.Ytinlhghlmfcbfaa
