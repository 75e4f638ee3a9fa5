/- The path to a node: the program's. -/
import Derived.Test.YtinlhghlmfcbfaaVa
import Derived.Test.YtinlhghlmfcbfaaNg
namespace Go.Proofs.Ytinlhghlmfcbfaa
open Go.RowKit Go.Maps Go.WideMaps

/-- The numbers from the first node to this one. -/
def pathF (ms : List Mb) : Nat → Int → List Int
  | 0, _ => []
  | f + 1, id => if id = 0 then [] else pathF ms f (ms.getD (nAt ms id).toNat Z3).2.1 ++ [id]
def pathR (ms : List Mb) (id : Int) : Int × List Int := if treeR ms ≠ 0 then (treeR ms, []) else if id ≠ 0 ∧ nAt ms id < 0 then (4, []) else (0, pathF ms (ms.length + 1) id)
theorem pathF_len (ms : List Mb) : ∀ f id, (pathF ms f id).length ≤ f := by
  intro f
  induction f with
  | zero => intro id; simp [pathF]
  | succ f ih =>
    intro id
    rw [pathF]
    split
    · simp
    · have := ih (ms.getD (nAt ms id).toNat Z3).2.1
      rw [List.length_append]
      simp only [List.length_cons, List.length_nil]
      omega
theorem tree_few {ms : List Mb} (h : treeR ms = 0) : ms.length ≤ 60 := by
  unfold treeR at h
  by_cases e : 60 < ms.length
  · rw [if_pos e] at h; cases h
  · omega

theorem reverse_nil (w : World) : Calls Try.prog 39 #[.slice none 0 0] w fun e w' => e = .returned (.tuple #[]) ∧ w' = w := by
  go_enter Try.func39, Try.ntmps39
  go_wp2
  refine wp_loop_rounds 1 ?_
  rw [rounds_succ]
  go_wp2
  go_end0
  exact ⟨rfl, rfl⟩
/-- .. of any row. -/
theorem reverse_row (lo n c : Nat) (va : Option Addr) (l : List Int) (w : World) (hn : n ≤ 1000) (h : w.ownsRow lo 2 1 (.slice va n c) n (ints l)) :
    Calls Try.prog 39 #[.slice va n c] w fun e w' => e = .returned (.tuple #[]) ∧ Hid (w'.ownsRow lo 2 1 (.slice va n c) n (ints l.reverse)) ∧ Hid (Below lo w w') := by
  rcases id h.2 with ⟨e, e0⟩ | ⟨g, c', cur, e, hb, _⟩
  · cases e
    have hl : l = [] := by have := h.1; simpa [ints] using this
    subst hl
    exact (reverse_nil w).mono fun e w' ⟨e1, e2⟩ => ⟨e1, by rw [e2]; exact h, by rw [e2]; exact Below.refl _ _⟩
  · cases e
    exact (reverse_any lo g n c l w hn h).mono fun e w' ⟨e1, e2, e3⟩ => ⟨e1, e2, e3.mono hb⟩

set_option maxRecDepth 20000 in
set_option maxHeartbeats 4000000 in
theorem path_any (lo G B : Nat) (s : Value) (ms : List Mb) (bs : List Nat) (id : Int) (p0 : Option Addr) (w : World) (hz : treeR ms = 0) (hG : Gv w lo G B s ms bs) (hp : ptrOf ms bs id = .pointer p0) (hi : id = 0 ∨ 0 ≤ nAt ms id) :
    Calls Try.prog 24 #[.pointer p0] w fun e w' => ∃ va vc, e = .returned (.slice va (pathF ms (ms.length + 1) id).length vc) ∧ w'.ownsRow w.heap.size 2 1 (.slice va (pathF ms (ms.length + 1) id).length vc) (pathF ms (ms.length + 1) id).length (ints (pathF ms (ms.length + 1) id)) ∧ Below w.heap.size w w' := by
  have HG : Hid (Gv w lo G B s ms bs) := hG
  have HZ : Hid (treeR ms = 0) := hz
  obtain ⟨L, hL⟩ : ∃ L, L = pathF ms (ms.length + 1) id := ⟨_, rfl⟩
  rw [← hL]
  have HL : Hid (L = pathF ms (ms.length + 1) id) := hL
  have hLl : L.length ≤ 61 := by rw [hL]; have := pathF_len ms (ms.length + 1) id; have := tree_few hz; omega
  obtain ⟨N, hN⟩ : ∃ N, N = L.length := ⟨_, rfl⟩
  rw [← hN] at hLl ⊢
  have HN : Hid (L.length = N) := hN.symm
  have HP : Hid (ptrOf ms bs id = .pointer p0) := hp
  have HI : Hid (id = 0 ∨ 0 ≤ nAt ms id) := hi
  have HF0 : Hid (nAt ms id < ((ms.length + 1 : Nat) : Int)) := by
    show _ < _
    rcases nAt_lt ms id with e | ⟨j, h1, h2, _⟩ <;> omega
  clear hG hz hL hN hp hi
  go_enter Try.func24, Try.ntmps24
  go_wp2
  go_loopw [3, 4] (fun v u wr => ∃ (b' : Int) (f k : Nat) (acc : List Int) (q : Option Addr) (va : Option Addr) (vc : Nat), u = .pointer q ∧ v = .slice va k vc ∧ k ≤ 61 ∧ Below w.heap.size w wr ∧ Hid (acc.length = k) ∧ Hid (ptrOf ms bs b' = .pointer q) ∧ Hid (L.reverse = acc ++ (pathF ms f b').reverse) ∧ Hid (nAt ms b' < (f : Int)) ∧ Hid (b' = 0 ∨ 0 ≤ nAt ms b') ∧ Hid (wr.ownsRow w.heap.size 2 1 (.slice va k vc) k (ints acc))) (fun _ u _ => blkP u)
  case atStart => exact ⟨id, _, 0, [], p0, none, 0, rfl, rfl, by omega, Below.refl _ _, rfl, HP, by show _ = _; rw [HL.out]; rfl, HF0, HI, ⟨rfl, .inl ⟨rfl, rfl⟩⟩⟩
  case round =>
    obtain ⟨b', f, k, acc, q, va, vc, rfl, rfl, hk, hbel, HAC, HQ, HT, HF, HIb, HO⟩ := hrel
    rcases nAt_lt ms b' with hi | ⟨j, hj, hi, hid⟩
    · obtain rfl : q = none := by have := HQ.out; rw [ptrOf_none (by omega)] at this; simpa using this.symm
      have hb0 : b' = 0 := by rcases HIb.out with e | e; exact e; omega
      have hpf : pathF ms f b' = [] := by
        rw [hb0]
        cases f with
        | zero => rfl
        | succ f => rw [pathF, if_pos rfl]
      have hacc : acc.reverse = L := by have := HT.out; rw [hpf] at this; simp at this; rw [← this, List.reverse_reverse]
      have HACC : Hid (acc.reverse = L) := hacc
      obtain rfl : k = N := by rw [← HN.out, ← HAC.out, ← hacc, List.length_reverse]
      have hrev := reverse_row w.heap.size k vc va acc wr (by omega) HO.out
      clear hi hb0 hpf hacc
      go_wp2_with (go_at_call 39; (with_reducible refine hrev.mono ?_); clear hrev; rintro e w2 ⟨rfl, HR2, HB2⟩)
      go_ret
      exact ⟨va, vc, rfl, by have := HR2.out; rw [HACC.out] at this; exact this, hbel.trans HB2.out⟩
    obtain ⟨X, hX⟩ : ∃ X, X = bs.getD j 0 := ⟨_, rfl⟩
    obtain rfl : q = some ⟨X, 0, none⟩ := by have := HQ.out; rw [ptrOf_some hi, ← hX] at this; simpa using this.symm
    obtain ⟨f', rfl⟩ : ∃ f', f = f' + 1 := ⟨f - 1, by have := HF.out; omega⟩
    have h0 : b' ≠ 0 := fun q => by rw [q, no_zero HZ.out] at hi; omega
    obtain ⟨pv, hpv⟩ : ∃ x, x = (ms.getD j Z3).2.1 := ⟨_, rfl⟩
    have HT2 : Hid (L.reverse = (acc ++ [b']) ++ (pathF ms f' pv).reverse) := by
      show _ = _
      rw [HT.out, pathF, if_neg h0, hi, hpv]
      simp
    have hpl0 := prev_lt HZ.out hj
    rw [← hpv] at hpl0
    have hlt : nAt ms pv < (j : Int) := by
      rcases hpl0 with e | ⟨_, e⟩
      · rw [e, no_zero HZ.out]; omega
      · exact e
    have HI2 : Hid (pv = 0 ∨ 0 ≤ nAt ms pv) := by
      rcases hpl0 with e | ⟨e, _⟩
      · exact .inl e
      · exact .inr e
    have HF2 : Hid (nAt ms pv < (f' : Int)) := by show _ < _; have := HF.out; omega
    have hk2 : k + 1 ≤ 61 := by
      have e1 := congrArg List.length HT2.out
      simp at e1
      have := HN.out
      have := HAC.out
      omega
    have hnode0 := (HG.out.node j hj).1
    rw [← hpv, ← hX, hid] at hnode0
    have hpl := ptr_lt HG.out hj hlt
    rw [← hX] at hpl
    obtain ⟨pp, hpp⟩ := ptr_ex ms bs pv
    rw [hpp] at hnode0 hpl
    have hnode := (hbel.block X (lt_of_block hnode0)).trans hnode0
    have HPP : Hid (ptrOf ms bs pv = .pointer pp) := hpp
    have hsz := hbel.size
    obtain ⟨g5, cap, w5, hrun, HC5⟩ := int_added (k := b') (X := wr.heap.size) (HO.out.alloc (.cells #[.int .i64 b'] 2)) (heap_alloc_at _ _ _ rfl) (by omega) (by simp; omega)
    have HB5 : Hid (Below w.heap.size w w5) := (hbel.trans ((below_box _).mono hbel.size)).grown HC5.out.2 (by simp; omega) (fun k hk => (HO.out.lt k hk).1)
    have hnode5 := (HB5.out.block X (lt_of_block hnode0)).trans hnode0
    have x0 : wr.cell? ⟨X, 0, none⟩ = some (.int .i64 b') := by unfold World.cell?; rw [hnode]; rfl
    have x3 : w5.cell? ⟨X, 3, none⟩ = some (.pointer pp) := by unfold World.cell?; rw [hnode5]; rfl
    have HM : Hid (blkP (.pointer pp) < X + 1) := hpl
    have HAC2 : Hid ((acc ++ [b']).length = k + 1) := by show _ = _; rw [← HAC.out]; simp
    clear hi hX hid hnode hpl hpp hlt hpv HT HF hj hnode0 hnode5 hpl0 h0 hsz
    go_wp2_with (first | (at_builtin; go_must (refine wpList_append_runC (by rfl) _ _ _ (by rfl) (by rfl) (by rfl) hrun ?_); clear hrun))
    go_roundw
    case rel => exact ⟨pv, f', k + 1, acc ++ [b'], pp, _, _, rfl, rfl, hk2, HB5.out, HAC2, HPP, HT2, HF2, HI2, HC5.out.1⟩
    case measure => exact HM.out

end Go.Proofs.Ytinlhghlmfcbfaa
