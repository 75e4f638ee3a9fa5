/- The program's small readers: a number, a word, a cut, a kind. Each tells what it reads, or panics. -/
import Derived.Test.YtciefdphjkjikaaGreatDoorBa
import Derived.Test.YtciefdphjkjikaaGreatDoorBb
import Derived.Test.YtciefdphjkjikaaGreatDoorJn4
import Derived.Test.YtciefdphjkjikaaGreatDoorAj
import Derived.WalkLawsBesides
import Derived.OrdersIn
namespace Go.Proofs.YtciefdphjkjikaaGreatDoor
open Go.RowKit Go.Shelf Go.Maps Go.WideMaps

section
variable {F : Fence} {m : Nat} {P : Program} {md : Region.Mode} {ops : Array Oper} {Q : Exit → Act → World → Prop}
/-- A drawn region within a fence, by what holds whatever has been done of it. -/
theorem wpAnyIn_inv (Inv : Array Bool → Act → World → Prop)
    (hs : ∀ L a w i, Inv L a w → i ∈ Region.ready md ops L → wpOpIn F m P ops Q i (Inv (L.setIfInBounds i true)) a w)
    (he : ∀ L a w, Inv L a w → Region.ready md ops L = [] → Q .normal a w) :
    ∀ (fuel : Nat) (L : Array Bool) (a : Act) (w : World), L.toList.count false ≤ fuel → Inv L a w → wpAnyIn F m P md ops Q fuel L a w
  | 0, L, a, w, hc, hI => by
    have hr : Region.ready md ops L = [] := by
      refine List.eq_nil_iff_forall_not_mem.2 fun i hi => ?_
      have h1 := listed_false (mem_ready.1 hi).1
      have h2 := List.count_pos_iff.2 (List.mem_of_getElem? h1)
      omega
    exact ⟨hr, he L a w hI hr⟩
  | fuel + 1, L, a, w, hc, hI => by
    refine ⟨fun h0 => he L a w hI h0, fun i hi => wpOpIn_mono (fun a' w' h' => wpAnyIn_inv Inv hs he fuel _ a' w' ?_ h') (hs L a w i hI hi)⟩
    have h1 := count_set_lt (listed_false (mem_ready.1 hi).1)
    rw [Array.toList_setIfInBounds]
    omega
theorem wpOpIn_run {i : Nat} {o : Oper} {a : Act} {w : World} {K : Act → World → Prop} (ho : ops[i]? = some o) (hg : o.guard = none)
    (h : ∀ K' : Act → World → Prop, (∀ a w, K a w → K' a w) → if Region.wanted o (yielded ops a.tmps) = true then Oper.wpIn F m P o a w K' Q else False) : wpOpIn F m P ops Q i K a w := by
  unfold wpOpIn
  rw [ho]
  have := h K (fun _ _ h => h)
  simp only [Region.wanted, hg, if_true] at this ⊢
  exact this
end

theorem looseN_in (s : List UInt8) : -9223372036854775808 ≤ looseN s ∧ looseN s ≤ 9223372036854775807 := by
  unfold looseN
  split
  · rename_i v h
    have := Lib.parseIntB_bounds h
    have e : ((2 ^ (64 - 1) : Nat) : Int) = 9223372036854775808 := by decide
    rw [e] at this
    omega
  all_goals decide
theorem writeNumZ_any {k : Int} (h0 : -9223372036854775808 ≤ k) (h1 : k ≤ 9223372036854775807) (w : World) (hT : Tb w) : Calls Tryz.prog 47 #[.int .i64 k] w fun e w' => e = .returned (.string (str (Lib.itoa k))) ∧ Below w.heap.size w w' := by
  have hf := Tryz.strconv_FormatInt_10 k h0 h1 w hT
  have e1 : (⟨(Lib.itoa k).toArray⟩ : ByteArray) = str (Lib.itoa k) := rfl
  rw [e1] at hf
  obtain ⟨s, hs⟩ : ∃ s, s = str (Lib.itoa k) := ⟨_, rfl⟩
  rw [← hs] at hf ⊢
  clear hT e1 hs h0 h1
  go_enter Tryz.func47, Tryz.ntmps47
  go_wp2_with (go_at_call 75; refine hf.mono ?_; rintro e w' ⟨rfl, q, os, rfl⟩)
  go_ret
  exact ⟨rfl, Lib.below_grow _ _ (Nat.le_refl _) _ _⟩

/-- What a reader ends with. -/
def endR {α : Type} (o : Option α) (g : α → Value) : Ending := match o with
  | some v => .returned (g v)
  | none => .panicked pnC

set_option maxHeartbeats 1000000 in
theorem readNumber_any (s : List UInt8) (w : World) (hs : s.length ≤ 1048576) (hE : Erv w) (hT : Tb w) :
    Calls Tryz.prog 69 #[.string (str s)] w fun e w' => e = endR (rnum s) (fun v => .int .i64 v) ∧ Below w.heap.size w w' := by
  have hL := looseNumber_any s w hs hE
  have hbd := looseN_in s
  obtain ⟨v, hv⟩ : ∃ v, v = looseN s := ⟨_, rfl⟩
  have hr : rnum s = if Lib.itoa v = s then some v else none := by rw [hv]; rfl
  rw [← hv] at hL hbd
  have HW : Hid (∀ W, Below w.heap.size w W → Calls Tryz.prog 47 #[.int .i64 v] W fun e w' => e = .returned (.string (str (Lib.itoa v))) ∧ Below W.heap.size W w') := fun W hW => writeNumZ_any hbd.1 hbd.2 W (hT.below hW (Nat.le_refl _))
  obtain ⟨tx, htx⟩ : ∃ t, t = str (Lib.itoa v) := ⟨_, rfl⟩
  rw [← htx] at HW
  by_cases hz : Lib.itoa v = s
  · have hq : endR (rnum s) (fun v => Value.int .i64 v) = .returned (.int .i64 v) := by rw [hr, if_pos hz]; rfl
    rw [hq]
    have hEq : (tx.toList == (str s).toList) = true := str_yes (by rw [htx, hz])
    clear hq hr hv hbd hE hT htx hz
    go_enter Tryz.func69, Tryz.ntmps69
    go_wp2_with (first
      | (go_at_call 86; (with_reducible refine hL.mono ?_); clear hL; rintro e w2 ⟨rfl, hb2⟩; have HB2 : Hid (Below w.heap.size w w2) := hb2; have hW := HW.out w2 hb2; clear hb2)
      | (go_at_call 47; (with_reducible refine hW.mono ?_); clear hW; rintro e w3 ⟨rfl, hb3⟩; have HB3 : Hid (Below w.heap.size w w3) := HB2.out.trans (hb3.mono HB2.out.size); clear hb3))
    go_ret
    exact ⟨rfl, HB3.out⟩
  · have hq : endR (rnum s) (fun v => Value.int .i64 v) = .panicked pnC := by rw [hr, if_neg hz]; rfl
    rw [hq]
    have hEq : (tx.toList == (str s).toList) = false := str_no (by
      rw [htx]
      intro e
      apply hz
      have := congrArg (fun b : ByteArray => b.data.toList) e
      simpa [str] using this)
    clear hq hr hv hbd hE hT htx hz
    go_enter Tryz.func69, Tryz.ntmps69
    go_wp2_with (first
      | (go_at_call 86; (with_reducible refine hL.mono ?_); clear hL; rintro e w2 ⟨rfl, hb2⟩; have HB2 : Hid (Below w.heap.size w w2) := hb2; have hW := HW.out w2 hb2; clear hb2)
      | (go_at_call 47; (with_reducible refine hW.mono ?_); clear hW; rintro e w3 ⟨rfl, hb3⟩; have HB3 : Hid (Below w.heap.size w w3) := HB2.out.trans (hb3.mono HB2.out.size); clear hb3))
    exact ⟨rfl, rfl, HB3.out⟩

/-- What a cut is of. -/
def cutO (s : List UInt8) (c : UInt8) : Option (List UInt8 × List UInt8) := if (Lib.cut s [c]).2.2 = true then some ((Lib.cut s [c]).1, (Lib.cut s [c]).2.1) else none
theorem cutAt_any (s : List UInt8) (c : UInt8) (m : Int) (w : World) (hs : s.length ≤ 1048576) (hm : w.cell? ⟨1, 0, none⟩ = some (.int .i64 m)) :
    Calls Tryz.prog 88 #[.string (str s), .string ⟨#[c]⟩] w fun e w' => e = endR (cutO s c) (fun p => .tuple #[.string (str p.1), .string (str p.2)]) ∧ Below w.heap.size w w' := by
  have ed : ∀ z : List UInt8, (str z).data.toList = z := fun z => by simp [str]
  have ez : ∀ z : List UInt8, (str z).size = z.length := fun z => by show z.toArray.size = _; simp
  obtain ⟨⟨p, q, f⟩, hr⟩ : ∃ r, Lib.cut s [c] = r := ⟨_, rfl⟩
  have hC : Calls Tryz.prog 102 #[.string (str s), .string ⟨#[c]⟩] w fun e w' => e = .returned (.tuple #[.string (str p), .string (str q), .bool f]) ∧ Hid (Below w.heap.size w w') := by
    refine (Tryz.strings_Cut (str s) ⟨#[c]⟩ m w (by rw [ez]; omega) hm).mono fun e w' ⟨h1, n, h2⟩ => ⟨?_, ?_⟩
    · rw [h1, ed]
      show Ending.returned (.tuple #[.string (str (Lib.cut s [c]).1), .string (str (Lib.cut s [c]).2.1), .bool (Lib.cut s [c]).2.2]) = _
      rw [hr]
    · show Below _ _ _
      rw [h2]; exact below_drewN (Below.refl _ _) n
  have hq : cutO s c = if f = true then some (p, q) else none := by unfold cutO; rw [hr]
  clear hr hm ed ez
  cases f
  · rw [hq, if_neg (by simp)]
    show Calls _ _ _ _ fun e w' => e = .panicked pnC ∧ _
    go_enter Tryz.func88, Tryz.ntmps88
    go_wp2_with (go_at_call 102; (with_reducible refine hC.mono ?_); clear hC; rintro e w2 ⟨rfl, HB2⟩)
    exact ⟨rfl, rfl, HB2.out⟩
  · rw [hq, if_pos rfl]
    show Calls _ _ _ _ fun e w' => e = .returned (.tuple #[.string (str p), .string (str q)]) ∧ _
    go_enter Tryz.func88, Tryz.ntmps88
    go_wp2_with (go_at_call 102; (with_reducible refine hC.mono ?_); clear hC; rintro e w2 ⟨rfl, HB2⟩)
    refine bodyPost_ret (v := .tuple #[.string (str p), .string (str q)]) (by simp [results, Tryz.results88, go_sem]) rfl ?_
    exact ⟨rfl, HB2.out⟩

/-- The words that are left, behind the reader R. -/
structure WdR (w : World) (R g : Nat) (ws : List (List UInt8)) (j : Nat) : Prop where
  box : ∃ a, w.heap[R]? = some (.cells #[.slice a (ws.length - j) (ws.length - j)] 80 (0, 0)) ∧ (j < ws.length → a = some ⟨g, j, none⟩)
  row : w.heap[g]? = some (.cells (texts ws).toArray 9 (0, 0))
  ne : R ≠ g
  few : ws.length ≤ 1048576
theorem WdR.cell {w : World} {R g j : Nat} {ws : List (List UInt8)} (h : WdR w R g ws j) {i : Nat} (hi : i < ws.length) : w.cell? ⟨g, i, none⟩ = some (.string (str (ws.getD i []))) := by
  unfold World.cell?
  rw [h.row]
  simp [texts, List.getD, hi]
theorem WdR.chg {w w' : World} {R g j : Nat} {ws : List (List UInt8)} (h : WdR w R g ws j) (hb : Below w.heap.size w w') : WdR w' R g ws j := by
  obtain ⟨a, h1, h2⟩ := h.box
  exact ⟨⟨a, (keepb h1 hb).out, h2⟩, (keepb h.row hb).out, h.ne, h.few⟩

/-- What the reader's next word is. -/
def NextO (w w' : World) (e : Ending) (R g j : Nat) (ws : List (List UInt8)) : Prop := (j < ws.length ∧ e = .returned (.string (str (ws.getD j []))) ∧ WdR w' R g ws (j + 1) ∧ Chg w w' R (R + 1)) ∨ (¬ j < ws.length ∧ e = .panicked pnC ∧ w' = w)
set_option maxHeartbeats 1000000 in
theorem next_any (R g j : Nat) (ws : List (List UInt8)) (w : World) (h : WdR w R g ws j) :
    Calls Tryz.prog 68 #[.pointer (some ⟨R, 0, none⟩)] w fun e w' => NextO w w' e R g j ws := by
  obtain ⟨a, h1, h2⟩ := h.box
  have c0 : w.cell? ⟨R, 0, none⟩ = some (.slice a (ws.length - j) (ws.length - j)) := by unfold World.cell?; rw [h1]; rfl
  have f0 := Joins.unfrozen_of_block h1 0
  by_cases hj : j < ws.length
  · obtain rfl := h2 hj
    obtain ⟨N, hN⟩ : ∃ N, N = ws.length - j := ⟨_, rfl⟩
    have cj := h.cell hj
    obtain ⟨x, hx⟩ : ∃ x, x = str (ws.getD j []) := ⟨_, rfl⟩
    rw [← hx] at cj
    have HX2 : Hid (x = str (ws.getD j [])) := hx
    rw [← hN] at c0 h1
    have hN0 : ¬ ((N : Int) == 0) = true := by simp; omega
    have hN1 : ((N : Int) == 0) = false := by simp; omega
    have hN2 : (0 : Int) < (N : Int) := by omega
    have hN3 : (1 : Int) ≤ (N : Int) := by omega
    have hN4 : 1 ≤ N := by omega
    have hN5 : 0 < N := by omega
    have hN6 : ¬ N = 0 := by omega
    have HX : Hid (w.heap[R]? = some (.cells #[.slice (some ⟨g, j, none⟩) N N] 80 (0, 0))) := h1
    have HN : Hid (N = ws.length - j) := hN
    have HH : Hid (WdR w R g ws j) := h
    have hle := h.few
    have hNl : N ≤ 1048576 := by omega
    have key : ∀ a', (¬ N = 1 → a' = some ⟨g, j + 1, none⟩) → WdR (w.setCell ⟨R, 0, none⟩ (.slice a' (N - 1) (N - 1))) R g ws (j + 1) ∧ Chg w (w.setCell ⟨R, 0, none⟩ (.slice a' (N - 1) (N - 1))) R (R + 1) := fun a' ha => by
      have hr := HH.out.row
      have hn := HH.out.ne
      refine ⟨⟨⟨a', ?_, fun hlt => ha (by have := HN.out; omega)⟩, (Below.heap_setCell _ ⟨R, 0, none⟩ _ g (Ne.symm hn)).trans hr, hn, HH.out.few⟩, (Chg.refl _ _ _).setCell ⟨Nat.le_refl _, by omega⟩ _⟩
      have := Joins.block_setCell (i := 0) HX.out (.slice a' (N - 1) (N - 1))
      have e : ws.length - (j + 1) = N - 1 := by have := HN.out; omega
      rw [e]
      simpa using this
    have HK := show Hid _ from key
    clear h h1 h2 hN hx key hle
    by_cases h1 : N = 1
    · subst h1
      go_enter Tryz.func68, Tryz.ntmps68
      go_wp2
      go_ret
      have q := HK.out (some ⟨g, j, none⟩) (by intro e; simp at e)
      exact .inl ⟨hj, by rw [← HX2.out]; rfl, q.1, q.2⟩
    · have h5 : ¬ N - 1 = 0 := by omega
      go_enter Tryz.func68, Tryz.ntmps68
      go_wp2
      go_ret
      have q := HK.out (some ⟨g, j + 1, none⟩) (fun _ => rfl)
      exact .inl ⟨hj, by rw [← HX2.out]; rfl, q.1, q.2⟩
  · have e : ws.length - j = 0 := by omega
    rw [e] at c0
    clear h h1 h2
    go_enter Tryz.func68, Tryz.ntmps68
    go_wp2
    exact ⟨rfl, .inr ⟨hj, rfl, rfl⟩⟩

/-- The kind that a word names. -/
def kindO (s : List UInt8) : Option Int := if s = [112, 97, 121] then some 0 else if s = [106, 111, 105, 110] then some 1 else if s = [108, 101, 97, 118, 101] then some 2 else none
set_option maxRecDepth 20000 in
set_option maxHeartbeats 2000000 in
theorem readKind_any (s : List UInt8) (w : World) (hE : Ev w) :
    Calls Tryz.prog 67 #[.string (str s)] w fun e w' => e = endR (kindO s) (fun v => .int .i64 v) ∧ w' = w := by
  obtain ⟨c0, c1, c2⟩ := kn_cells hE
  obtain ⟨n0, h0⟩ : ∃ z, z = str [112, 97, 121] := ⟨_, rfl⟩
  obtain ⟨n1, h1⟩ : ∃ z, z = str [106, 111, 105, 110] := ⟨_, rfl⟩
  obtain ⟨n2, h2⟩ : ∃ z, z = str [108, 101, 97, 118, 101] := ⟨_, rfl⟩
  rw [← h0] at c0
  rw [← h1] at c1
  rw [← h2] at c2
  have hne : ∀ {l : List UInt8}, ¬ s = l → ((str l).toList == (str s).toList) = false := fun {l} hn => str_no (by
    intro e
    apply hn
    have := congrArg (fun b : ByteArray => b.data.toList) e
    simpa [str] using this.symm)
  clear hE
  have i0 : ∀ v : World, (Instr.index 90 (.agg #[.string n0, .string n1, .string n2]) (.int .i64 0)).run Tryz.prog v = .ok (.string n0) v := fun v => by kernel_rfl
  have i1 : ∀ v : World, (Instr.index 90 (.agg #[.string n0, .string n1, .string n2]) (.int .i64 1)).run Tryz.prog v = .ok (.string n1) v := fun v => by kernel_rfl
  have i2 : ∀ v : World, (Instr.index 90 (.agg #[.string n0, .string n1, .string n2]) (.int .i64 2)).run Tryz.prog v = .ok (.string n2) v := fun v => by kernel_rfl
  unfold kindO
  by_cases k0 : s = [112, 97, 121]
  · rw [if_pos k0]
    show Calls _ _ _ _ fun e w' => e = .returned (.int .i64 0) ∧ _
    have q0 : (n0.toList == (str s).toList) = true := str_yes (by rw [h0, k0])
    clear hne h0 h1 h2 k0
    go_enter Tryz.func67, Tryz.ntmps67
    go_wp2
    refine wp_loop_rounds 1 ?_
    rw [rounds_succ]
    go_wp2
    go_ret
    exact ⟨rfl, rfl⟩
  · rw [if_neg k0]
    have q0 : (n0.toList == (str s).toList) = false := by rw [h0]; exact hne k0
    by_cases k1 : s = [106, 111, 105, 110]
    · rw [if_pos k1]
      show Calls _ _ _ _ fun e w' => e = .returned (.int .i64 1) ∧ _
      have q1 : (n1.toList == (str s).toList) = true := str_yes (by rw [h1, k1])
      clear hne h0 h1 h2 k0 k1
      go_enter Tryz.func67, Tryz.ntmps67
      go_wp2
      refine wp_loop_rounds 2 ?_
      rw [rounds_succ]
      go_wp2
      rw [rounds_succ]
      go_wp2
      go_ret
      exact ⟨rfl, rfl⟩
    · rw [if_neg k1]
      have q1 : (n1.toList == (str s).toList) = false := by rw [h1]; exact hne k1
      by_cases k2 : s = [108, 101, 97, 118, 101]
      · rw [if_pos k2]
        show Calls _ _ _ _ fun e w' => e = .returned (.int .i64 2) ∧ _
        have q2 : (n2.toList == (str s).toList) = true := str_yes (by rw [h2, k2])
        clear hne h0 h1 h2 k0 k1 k2
        go_enter Tryz.func67, Tryz.ntmps67
        go_wp2
        refine wp_loop_rounds 3 ?_
        rw [rounds_succ]
        go_wp2
        rw [rounds_succ]
        go_wp2
        rw [rounds_succ]
        go_wp2
        go_ret
        exact ⟨rfl, rfl⟩
      · rw [if_neg k2]
        show Calls _ _ _ _ fun e w' => e = .panicked pnC ∧ _
        have q2 : (n2.toList == (str s).toList) = false := by rw [h2]; exact hne k2
        clear hne h0 h1 h2 k0 k1 k2
        go_enter Tryz.func67, Tryz.ntmps67
        go_wp2
        refine wp_loop_rounds 4 ?_
        rw [rounds_succ]
        go_wp2
        rw [rounds_succ]
        go_wp2
        rw [rounds_succ]
        go_wp2
        rw [rounds_succ]
        go_wp2
        exact ⟨rfl, rfl, rfl⟩

end Go.Proofs.YtciefdphjkjikaaGreatDoor
