/- The program's words of a transaction, and its text. -/
import Derived.Test.YtciefdphjkjikaaGreatDoorJn4
import Derived.Test.YtciefdphjkjikaaGreatDoorJn3
import Derived.Lib.SplitLaws
namespace Go.Proofs.YtciefdphjkjikaaGreatDoor
open Go.RowKit Go.Shelf Go.Maps Go.WideMaps

theorem Ev.rep {w : World} (h : Ev w) : RepAt w := by
  intro t W ht hW
  obtain ⟨z, hz⟩ := (h.below hW (Nat.le_refl _)).mx
  have hs : (str t).size = t.length := rfl
  have hcb := Lib.countB_le ⟨#[32]⟩ (by decide) (str t).size (str t) (Nat.le_refl _)
  have hr := Tryz.strings_ReplaceAll (str t) ⟨#[32]⟩ ⟨#[95]⟩ z W (by rw [hs]; omega) hz (by decide) (by
    have e : (⟨#[95]⟩ : ByteArray).size = 1 := rfl
    rw [e]; omega)
  have e1 : (⟨(Lib.replaceAll (str t).data.toList [32] [95]).toArray⟩ : ByteArray) = str (t.map swp) := by
    have : (str t).data.toList = t := by simp [str]
    rw [this, repl_swap]; rfl
  refine hr.mono fun e w' ⟨he, hb⟩ => ⟨?_, hb⟩
  rw [he]
  exact congrArg (fun q => Ending.returned (.string q)) e1

theorem kn_cells {w : World} (h : Ev w) : w.cell? ⟨0, 0, none⟩ = some (.string (str [112, 97, 121])) ∧ w.cell? ⟨0, 1, none⟩ = some (.string (str [106, 111, 105, 110])) ∧ w.cell? ⟨0, 2, none⟩ = some (.string (str [108, 101, 97, 118, 101])) := by
  have hg : Tryz.prog.globalNamed "loop.example/g00304/impl.kindNames" = some 0 := by kernel_rfl
  exact ⟨World.var?_cell hg h.kn 0, World.var?_cell hg h.kn 1, World.var?_cell hg h.kn 2⟩

theorem own_one (w : World) (s : ByteArray) {base : Nat} (hb : base ≤ w.heap.size) : (w.alloc (.cells #[.string s] 9)).ownsRow base 9 1 (.slice (some ⟨w.heap.size, 0, none⟩) 1 1) 1 [.string s] :=
  ⟨rfl, .inr ⟨w.heap.size, 1, #[.string s], rfl, hb, heap_alloc_new _ _, by omega, by unfold maxLen; omega, rfl, rfl⟩⟩

/-- An append in a plain region, out of its own run. -/
theorem wpList_append_run {P : Program} {w : World} {ops : Array Oper} {rest : List Oper} {o : Oper} {a : Act} {Q : Exit → Act → World → Prop} (hgd : o.guard = none) (s x : Operand) (t : TypeId)
    (hop : o.op = .call { callee := .builtin .append, args := #[s, x], argTypes := #[t, t] }) {v u v' : Value} {w' : World} (hs : a.eval s = v) (hx : a.eval x = u) (hrun : (Builtin.append_ #[t, t] o.type #[v, u]).run P w = .ok v' w') (h : wpList P ops Q rest (a.put o.dst v') w') :
    wpList P ops Q (o :: rest) a w :=
  wpList_plain hgd fun _ hK => by
    unfold Oper.wp
    simp [execOp, hop, resolve, invoke, builtin, hs, hx, hrun, Result.andThen]
    exact hK _ _ h

theorem tx_more {k f : Int} {rs : List (Int × Int)} {os : List Ou} (h : 0 = txR k f rs os) : rs ≠ [] ∧ ∀ j, j < os.length → ruleR (os.getD j O0).l (os.getD j O0).x (os.getD j O0).y = 0 := by
  unfold txR at h
  by_cases h1 : inB k 0 2 = false ∨ ¬ (k = 0 ↔ f = 0)
  · rw [if_pos h1] at h; cases h
  rw [if_neg h1] at h
  by_cases h2 : k ≠ 0 ∧ inB f 1 999 = false
  · rw [if_pos h2] at h; cases h
  rw [if_neg h2] at h
  by_cases h3 : inB rs.length 1 4 = false ∨ inB os.length 1 4 = false
  · rw [if_pos h3] at h; cases h
  rw [if_neg h3] at h
  by_cases h5 : refsR [] rs ≠ 0
  · rw [if_pos h5] at h; exact absurd h.symm h5
  rw [if_neg h5] at h
  unfold joinR at h
  by_cases h6 : outsR os ≠ 0
  · rw [if_pos h6] at h; exact absurd h.symm h6
  refine ⟨?_, fun j hj => outsR_rule (Classical.not_not.1 h6) _ (getD_mem (d := O0) hj)⟩
  rintro rfl
  exact h3 (.inl (by decide))

theorem take_outs {os : List Ou} {n k : Nat} (hn : os.length = n) (hk : k < n) {o : Ou} (ho : o = os.getD k O0) : (os.take (k + 1)).map outW = (os.take k).map outW ++ [outW o] := by
  have e : os.getD k O0 = os[k]'(by omega) := by simp [List.getD, List.getElem?_eq_getElem (show k < os.length by omega)]
  rw [List.take_add_one, ho, e, List.getElem?_eq_getElem (by omega), List.map_append]
  rfl

/-- What the words' walk carries: the transaction's box, the words so far. -/
structure Wd (w v : World) (k f : Int) (ia : Option Addr) (n c : Nat) (oa : Option Addr) (m d : Nat) (x : Value) (N : Nat) (ls : List (List UInt8)) : Prop where
  box : v.heap[w.heap.size]? = some (.cells #[.int .i64 k, .int .i64 f, .slice ia n c, .slice oa m d] 28 (0, 0))
  bel : Below w.heap.size w v
  row : v.ownsRow (w.heap.size + 1) 9 1 x N (texts ls)
theorem Wd.lt {w v : World} {k f : Int} {ia oa : Option Addr} {n c m d N : Nat} {x : Value} {ls : List (List UInt8)} (h : Wd w v k f ia n c oa m d x N ls) : w.heap.size + 1 ≤ v.heap.size := lt_of_block h.box
theorem Wd.add {w v w2 : World} {k f : Int} {ia oa : Option Addr} {n c m d N : Nat} {x : Value} {ls : List (List UInt8)} (h : Wd w v k f ia n c oa m d x N ls) (hb : Below v.heap.size v w2) (hN : N ≤ 100) (t : List UInt8) :
    ∃ g cap w3, (Builtin.append_ #[55, 55] 55 #[x, .slice (some ⟨w2.heap.size, 0, none⟩) 1 1]).run Tryz.prog (w2.alloc (.cells #[.string (str t)] 9)) = .ok (.slice (some ⟨g, 0, none⟩) (N + 1) cap) w3 ∧
      Hid (Wd w w3 k f ia n c oa m d (.slice (some ⟨g, 0, none⟩) (N + 1) cap) (N + 1) (ls ++ [t])) := by
  obtain ⟨g, cap, w3, hrun, HW⟩ := word_added (str t) h.row hb h.lt hN
  refine ⟨g, cap, w3, hrun, ?_, ?_, ?_⟩
  · exact (HW.out.2.block _ (by omega)).trans h.box
  · exact h.bel.trans (HW.out.2.mono (by omega))
  · rw [texts_more]; exact HW.out.1

set_option maxRecDepth 20000 in
set_option maxHeartbeats 4000000 in
theorem txWords_0 (n c m d : Nat) (ia oa : Option Addr) (f : Int) (rs : List (Int × Int)) (os : List Ou) (w : World) (hok : TxOk 0 f rs os) (hrl : ∀ j, j < os.length → ruleR (os.getD j O0).l (os.getD j O0).x (os.getD j O0).y = 0) (h : TxAt w ia n oa m rs os) (hE : Ev w) :
    Calls Tryz.prog 24 #[.agg #[.int .i64 0, .int .i64 f, .slice ia n c, .slice oa m d]] w fun e w' => ∃ v N, e = .returned v ∧ w'.ownsRow (w.heap.size + 1) 9 1 v N (texts (wordsT 0 f rs os)) ∧ Below w.heap.size w w' := by
  have hbx : Below w.heap.size w (w.alloc (.cells #[.int .i64 0, .int .i64 f, .slice ia n c, .slice oa m d] 28)) := below_box _
  obtain ⟨c0, c1, c2⟩ := kn_cells (hE.below hbx (Nat.le_refl _))
  have hs0 : (w.alloc (.cells #[.int .i64 0, .int .i64 f, .slice ia n c, .slice oa m d] 28)).heap.size = w.heap.size + 1 := by simp
  have HE : Hid (Ev w) := hE
  have HT : Hid (TxAt w ia n oa m rs os) := h
  have HOK : Hid (TxOk 0 f rs os) := hok
  have HRL : Hid (∀ j, j < os.length → ruleR (os.getD j O0).l (os.getD j O0).x (os.getD j O0).y = 0) := hrl
  have HN : Hid (rs.length = n) := h.r.1
  have HM : Hid (os.length = m) := h.o.1
  obtain ⟨df, hdf⟩ : ∃ z, z = dec f := ⟨_, rfl⟩
  have HDF : Hid (dec f = df) := hdf.symm
  obtain ⟨rt, hrt⟩ : ∃ z, z = refsW rs := ⟨_, rfl⟩
  have HRT : Hid (refsW rs = rt) := hrt.symm
  have HD1 : Hid (Wd w ((w.alloc (.cells #[.int .i64 0, .int .i64 f, .slice ia n c, .slice oa m d] 28)).alloc (.cells #[.string (str [112, 97, 121])] 9)) 0 f ia n c oa m d (.slice (some ⟨w.heap.size + 1, 0, none⟩) 1 1) 1 [[112, 97, 121]]) := ⟨block_at2, below_box2 _ _, by
    have := own_one (w.alloc (.cells #[.int .i64 0, .int .i64 f, .slice ia n c, .slice oa m d] 28)) (str [112, 97, 121]) (base := w.heap.size + 1) (by rw [hs0]; exact Nat.le_refl _)
    rw [hs0] at this
    exact this⟩
  have hM := hasMember_any 0
  have HRR : Hid (∀ v, Below w.heap.size w v → Calls Tryz.prog 48 #[.slice ia n c] v fun e w' => e = .returned (.string (str rt)) ∧ Below v.heap.size v w') := fun v hv => by
    rw [hrt]; exact writeRefs_any n c ia rs v (by have := hok.n; rw [h.r.1] at this; exact this) (fun j hj => hok.r j (by rw [h.r.1]; exact hj)) (h.r.below hv (Nat.le_refl _)) (hE.tb.below hv (Nat.le_refl _))
  have hA : Calls Tryz.prog 47 #[.int .i64 f] ((w.alloc (.cells #[.int .i64 0, .int .i64 f, .slice ia n c, .slice oa m d] 28)).alloc (.cells #[.string (str [112, 97, 121])] 9)) fun e w' => e = .returned (.string (str df)) ∧ Below ((w.alloc (.cells #[.int .i64 0, .int .i64 f, .slice ia n c, .slice oa m d] 28)).alloc (.cells #[.string (str [112, 97, 121])] 9)).heap.size ((w.alloc (.cells #[.int .i64 0, .int .i64 f, .slice ia n c, .slice oa m d] 28)).alloc (.cells #[.string (str [112, 97, 121])] 9)) w' := by
    rw [hdf]; exact writeNumber_any hok.f.1 hok.f.2 _ (hE.tb.below HD1.out.bel (Nat.le_refl _))
  have hR := HRR.out _ HD1.out.bel
  have hm4 : m ≤ 4 := by have := hok.m; rw [h.o.1] at this; exact this
  clear hdf hrt hok hrl h hE hbx hs0 hA
  go_enter Tryz.func24, Tryz.ntmps24
  go_wp2_with (first
    | (go_at_call 46; refine (hM _).mono ?_; rintro e w' ⟨rfl, hw⟩; have hw2 := hw.symm; subst hw2)
    | (go_at_call 48; (with_reducible refine hR.mono ?_); clear hR; rintro e w4 ⟨rfl, hb4⟩; obtain ⟨g2, k2, w5, hrun, HD5⟩ := HD1.out.add hb4 (by omega) rt; clear hb4)
    | (at_builtin; go_must (refine wpList_append_run (by rfl) _ _ _ (by rfl) (by rfl) (by rfl) hrun ?_); clear hrun; obtain ⟨q0, q1, q2, q3, _⟩ := cells4 HD5.out.box))
  go_loopw [3, 29] (fun v i wr => ∃ j : Nat, j ≤ m ∧ i = .int .i64 j ∧ Hid (Wd w wr 0 f ia n c oa m d v (2 + j) ([[112, 97, 121]] ++ [rt] ++ (os.take j).map outW))) (fun _ i _ => m - (intOf i).toNat)
  case atStart => exact ⟨0, Nat.zero_le _, rfl, by show Wd _ _ _ _ _ _ _ _ _ _ _ _ _; simpa using HD5.out⟩
  case round =>
    obtain ⟨j, hj, rfl, HD⟩ := hrel
    have hbel := HD.out.bel
    by_cases hlt : j < m
    · rcases HT.out.o.2 with h0 | ⟨b, off, e0, l0, d0⟩
      · omega
      subst e0
      obtain ⟨o, ho⟩ : ∃ o, o = os.getD j O0 := ⟨_, rfl⟩
      obtain ⟨ka, kn, kc, y0, y1, y2, y3, y4, y5⟩ := d0 j hlt
      have hoo := HOK.out.o j (by rw [HM.out]; exact hlt)
      have hrr := HRL.out j (by rw [HM.out]; exact hlt)
      rw [← ho] at y0 y2 y3 y5 hoo hrr
      have HX : Hid ((os.take (j + 1)).map outW = (os.take j).map outW ++ [outW o]) := take_outs HM.out hlt ho
      obtain ⟨ow, how⟩ : ∃ z, z = outW o := ⟨_, rfl⟩
      have HOW : Hid (outW o = ow) := how.symm
      rw [HOW.out] at HX
      obtain ⟨ov, ol, ox, oy⟩ := o
      obtain rfl := y5.1
      have x0 := (hbel.cell (p := ⟨b, off + j * 4, none⟩) l0).trans y0
      have x1 := (hbel.cell (p := ⟨b, off + j * 4 + 1, none⟩) l0).trans y1
      have x2 := (hbel.cell (p := ⟨b, off + j * 4 + 2, none⟩) l0).trans y2
      have x3 := (hbel.cell (p := ⟨b, off + j * 4 + 3, none⟩) l0).trans y3
      simp only at x0 x1 x2 x3 hoo hrr y5
      have hol : ol.length ≤ 1048576 := by have := hoo.n.2; simp only at this; omega
      have hb6 : Below w.heap.size w (wr.alloc (.cells #[.int .i64 ov, .slice ka ol.length kc, .int .i64 ox, .int .i64 oy] 44)) := hbel.trans ((below_box _).mono hbel.size)
      have hW := writeOut_any ⟨ov, ol, ox, oy⟩ ka ol.length kc (wr.alloc (.cells #[.int .i64 ov, .slice ka ol.length kc, .int .i64 ox, .int .i64 oy] 44)) hoo hrr hol (y5.below hb6 (Nat.le_refl _)) (HE.out.tb.below hb6 (Nat.le_refl _)) ((HE.out.below hb6 (Nat.le_refl _)).rep)
      have e9 : str (dec ov ++ (61 :: (rtxR ol ox oy).map swp)) = str ow := by rw [how]; rfl
      simp only at hW
      rw [e9] at hW
      have HBX : Hid (Below wr.heap.size wr (wr.alloc (.cells #[.int .i64 ov, .slice ka ol.length kc, .int .i64 ox, .int .i64 oy] 44))) := below_box _
      clear ho d0 y0 y1 y2 y3 y4 y5 hoo hrr how e9 hb6 hol HOW
      have hki : (j : Int) < (m : Int) := by omega
      go_wp2_with (first
        | (go_at_call 49; (with_reducible refine hW.mono ?_); clear hW; rintro e w7 ⟨rfl, hb7⟩; obtain ⟨g3, k3, w8, hrun, HD8⟩ := HD.out.add (HBX.out.trans (hb7.mono HBX.out.size)) (by omega) ow; clear hb7)
        | (at_builtin; go_must (refine wpList_append_run (by rfl) _ _ _ (by rfl) (by rfl) (by rfl) hrun ?_); clear hrun))
      go_roundw
      case rel => exact ⟨j + 1, by omega, by go_num, by show Wd _ _ _ _ _ _ _ _ _ _ _ _ _; rw [HX.out, ← List.append_assoc]; exact HD8.out⟩
      case measure => simp [intOf]; omega
    · have e1 : os.take j = os := List.take_of_length_le (by rw [HM.out]; omega)
      have HZ : Hid (Wd w wr 0 f ia n c oa m d u3 (2 + j) (wordsT 0 f rs os)) := by
        have hz := HD.out
        rw [e1] at hz
        have e2 : wordsT 0 f rs os = [[112, 97, 121]] ++ [rt] ++ os.map outW := by unfold wordsT; rw [HRT.out]; simp [kindW]
        rw [e2]; exact hz
      clear e1
      go_wp2
      go_ret
      exact ⟨_, _, rfl, HZ.out.row, HZ.out.bel⟩

set_option maxRecDepth 20000 in
set_option maxHeartbeats 4000000 in
theorem txWords_1 (n c m d : Nat) (ia oa : Option Addr) (f : Int) (rs : List (Int × Int)) (os : List Ou) (w : World) (hok : TxOk 1 f rs os) (hrl : ∀ j, j < os.length → ruleR (os.getD j O0).l (os.getD j O0).x (os.getD j O0).y = 0) (h : TxAt w ia n oa m rs os) (hE : Ev w) :
    Calls Tryz.prog 24 #[.agg #[.int .i64 1, .int .i64 f, .slice ia n c, .slice oa m d]] w fun e w' => ∃ v N, e = .returned v ∧ w'.ownsRow (w.heap.size + 1) 9 1 v N (texts (wordsT 1 f rs os)) ∧ Below w.heap.size w w' := by
  have hbx : Below w.heap.size w (w.alloc (.cells #[.int .i64 1, .int .i64 f, .slice ia n c, .slice oa m d] 28)) := below_box _
  obtain ⟨c0, c1, c2⟩ := kn_cells (hE.below hbx (Nat.le_refl _))
  have hs0 : (w.alloc (.cells #[.int .i64 1, .int .i64 f, .slice ia n c, .slice oa m d] 28)).heap.size = w.heap.size + 1 := by simp
  have HE : Hid (Ev w) := hE
  have HT : Hid (TxAt w ia n oa m rs os) := h
  have HOK : Hid (TxOk 1 f rs os) := hok
  have HRL : Hid (∀ j, j < os.length → ruleR (os.getD j O0).l (os.getD j O0).x (os.getD j O0).y = 0) := hrl
  have HN : Hid (rs.length = n) := h.r.1
  have HM : Hid (os.length = m) := h.o.1
  obtain ⟨df, hdf⟩ : ∃ z, z = dec f := ⟨_, rfl⟩
  have HDF : Hid (dec f = df) := hdf.symm
  obtain ⟨rt, hrt⟩ : ∃ z, z = refsW rs := ⟨_, rfl⟩
  have HRT : Hid (refsW rs = rt) := hrt.symm
  have HD1 : Hid (Wd w ((w.alloc (.cells #[.int .i64 1, .int .i64 f, .slice ia n c, .slice oa m d] 28)).alloc (.cells #[.string (str [106, 111, 105, 110])] 9)) 1 f ia n c oa m d (.slice (some ⟨w.heap.size + 1, 0, none⟩) 1 1) 1 [[106, 111, 105, 110]]) := ⟨block_at2, below_box2 _ _, by
    have := own_one (w.alloc (.cells #[.int .i64 1, .int .i64 f, .slice ia n c, .slice oa m d] 28)) (str [106, 111, 105, 110]) (base := w.heap.size + 1) (by rw [hs0]; exact Nat.le_refl _)
    rw [hs0] at this
    exact this⟩
  have hM := hasMember_any 1
  have HRR : Hid (∀ v, Below w.heap.size w v → Calls Tryz.prog 48 #[.slice ia n c] v fun e w' => e = .returned (.string (str rt)) ∧ Below v.heap.size v w') := fun v hv => by
    rw [hrt]; exact writeRefs_any n c ia rs v (by have := hok.n; rw [h.r.1] at this; exact this) (fun j hj => hok.r j (by rw [h.r.1]; exact hj)) (h.r.below hv (Nat.le_refl _)) (hE.tb.below hv (Nat.le_refl _))
  have hA : Calls Tryz.prog 47 #[.int .i64 f] ((w.alloc (.cells #[.int .i64 1, .int .i64 f, .slice ia n c, .slice oa m d] 28)).alloc (.cells #[.string (str [106, 111, 105, 110])] 9)) fun e w' => e = .returned (.string (str df)) ∧ Below ((w.alloc (.cells #[.int .i64 1, .int .i64 f, .slice ia n c, .slice oa m d] 28)).alloc (.cells #[.string (str [106, 111, 105, 110])] 9)).heap.size ((w.alloc (.cells #[.int .i64 1, .int .i64 f, .slice ia n c, .slice oa m d] 28)).alloc (.cells #[.string (str [106, 111, 105, 110])] 9)) w' := by
    rw [hdf]; exact writeNumber_any hok.f.1 hok.f.2 _ (hE.tb.below HD1.out.bel (Nat.le_refl _))
  have hm4 : m ≤ 4 := by have := hok.m; rw [h.o.1] at this; exact this
  clear hdf hrt hok hrl h hE hbx hs0 
  go_enter Tryz.func24, Tryz.ntmps24
  go_wp2_with (first
    | (go_at_call 46; refine (hM _).mono ?_; rintro e w' ⟨rfl, hw⟩; have hw2 := hw.symm; subst hw2)
    | (go_at_call 47; (with_reducible refine hA.mono ?_); clear hA; rintro e w2 ⟨rfl, hb2⟩; obtain ⟨g1, k1, w3, hrun, HD2⟩ := HD1.out.add hb2 (by omega) df; clear hb2)
    | (go_at_call 48; (with_reducible refine hR.mono ?_); clear hR; rintro e w4 ⟨rfl, hb4⟩; obtain ⟨g2, k2, w5, hrun, HD5⟩ := HD2.out.add hb4 (by omega) rt; clear hb4)
    | (at_builtin; go_must (first
        | (have hrun' := hrun; have hD5 := HD5; (refine wpList_append_run (by rfl) _ _ _ (by rfl) (by rfl) (by rfl) hrun' ?_); clear hrun hrun'; obtain ⟨q0, q1, q2, q3, _⟩ := cells4 HD5.out.box)
        | ((refine wpList_append_run (by rfl) _ _ _ (by rfl) (by rfl) (by rfl) hrun ?_); clear hrun; obtain ⟨p0, p1, p2, p3, _⟩ := cells4 HD2.out.box; have hR := HRR.out w3 HD2.out.bel))))
  go_loopw [3, 29] (fun v i wr => ∃ j : Nat, j ≤ m ∧ i = .int .i64 j ∧ Hid (Wd w wr 1 f ia n c oa m d v (3 + j) ([[106, 111, 105, 110], df] ++ [rt] ++ (os.take j).map outW))) (fun _ i _ => m - (intOf i).toNat)
  case atStart => exact ⟨0, Nat.zero_le _, rfl, by show Wd _ _ _ _ _ _ _ _ _ _ _ _ _; simpa using HD5.out⟩
  case round =>
    obtain ⟨j, hj, rfl, HD⟩ := hrel
    have hbel := HD.out.bel
    by_cases hlt : j < m
    · rcases HT.out.o.2 with h0 | ⟨b, off, e0, l0, d0⟩
      · omega
      subst e0
      obtain ⟨o, ho⟩ : ∃ o, o = os.getD j O0 := ⟨_, rfl⟩
      obtain ⟨ka, kn, kc, y0, y1, y2, y3, y4, y5⟩ := d0 j hlt
      have hoo := HOK.out.o j (by rw [HM.out]; exact hlt)
      have hrr := HRL.out j (by rw [HM.out]; exact hlt)
      rw [← ho] at y0 y2 y3 y5 hoo hrr
      have HX : Hid ((os.take (j + 1)).map outW = (os.take j).map outW ++ [outW o]) := take_outs HM.out hlt ho
      obtain ⟨ow, how⟩ : ∃ z, z = outW o := ⟨_, rfl⟩
      have HOW : Hid (outW o = ow) := how.symm
      rw [HOW.out] at HX
      obtain ⟨ov, ol, ox, oy⟩ := o
      obtain rfl := y5.1
      have x0 := (hbel.cell (p := ⟨b, off + j * 4, none⟩) l0).trans y0
      have x1 := (hbel.cell (p := ⟨b, off + j * 4 + 1, none⟩) l0).trans y1
      have x2 := (hbel.cell (p := ⟨b, off + j * 4 + 2, none⟩) l0).trans y2
      have x3 := (hbel.cell (p := ⟨b, off + j * 4 + 3, none⟩) l0).trans y3
      simp only at x0 x1 x2 x3 hoo hrr y5
      have hol : ol.length ≤ 1048576 := by have := hoo.n.2; simp only at this; omega
      have hb6 : Below w.heap.size w (wr.alloc (.cells #[.int .i64 ov, .slice ka ol.length kc, .int .i64 ox, .int .i64 oy] 44)) := hbel.trans ((below_box _).mono hbel.size)
      have hW := writeOut_any ⟨ov, ol, ox, oy⟩ ka ol.length kc (wr.alloc (.cells #[.int .i64 ov, .slice ka ol.length kc, .int .i64 ox, .int .i64 oy] 44)) hoo hrr hol (y5.below hb6 (Nat.le_refl _)) (HE.out.tb.below hb6 (Nat.le_refl _)) ((HE.out.below hb6 (Nat.le_refl _)).rep)
      have e9 : str (dec ov ++ (61 :: (rtxR ol ox oy).map swp)) = str ow := by rw [how]; rfl
      simp only at hW
      rw [e9] at hW
      have HBX : Hid (Below wr.heap.size wr (wr.alloc (.cells #[.int .i64 ov, .slice ka ol.length kc, .int .i64 ox, .int .i64 oy] 44))) := below_box _
      clear ho d0 y0 y1 y2 y3 y4 y5 hoo hrr how e9 hb6 hol HOW
      have hki : (j : Int) < (m : Int) := by omega
      go_wp2_with (first
        | (go_at_call 49; (with_reducible refine hW.mono ?_); clear hW; rintro e w7 ⟨rfl, hb7⟩; obtain ⟨g3, k3, w8, hrun, HD8⟩ := HD.out.add (HBX.out.trans (hb7.mono HBX.out.size)) (by omega) ow; clear hb7)
        | (at_builtin; go_must (refine wpList_append_run (by rfl) _ _ _ (by rfl) (by rfl) (by rfl) hrun ?_); clear hrun))
      go_roundw
      case rel => exact ⟨j + 1, by omega, by go_num, by show Wd _ _ _ _ _ _ _ _ _ _ _ _ _; rw [HX.out, ← List.append_assoc]; exact HD8.out⟩
      case measure => simp [intOf]; omega
    · have e1 : os.take j = os := List.take_of_length_le (by rw [HM.out]; omega)
      have HZ : Hid (Wd w wr 1 f ia n c oa m d u3 (3 + j) (wordsT 1 f rs os)) := by
        have hz := HD.out
        rw [e1] at hz
        have e2 : wordsT 1 f rs os = [[106, 111, 105, 110], df] ++ [rt] ++ os.map outW := by unfold wordsT; rw [HRT.out]; simp [kindW, HDF.out]
        rw [e2]; exact hz
      clear e1
      go_wp2
      go_ret
      exact ⟨_, _, rfl, HZ.out.row, HZ.out.bel⟩

set_option maxRecDepth 20000 in
set_option maxHeartbeats 4000000 in
theorem txWords_2 (n c m d : Nat) (ia oa : Option Addr) (f : Int) (rs : List (Int × Int)) (os : List Ou) (w : World) (hok : TxOk 2 f rs os) (hrl : ∀ j, j < os.length → ruleR (os.getD j O0).l (os.getD j O0).x (os.getD j O0).y = 0) (h : TxAt w ia n oa m rs os) (hE : Ev w) :
    Calls Tryz.prog 24 #[.agg #[.int .i64 2, .int .i64 f, .slice ia n c, .slice oa m d]] w fun e w' => ∃ v N, e = .returned v ∧ w'.ownsRow (w.heap.size + 1) 9 1 v N (texts (wordsT 2 f rs os)) ∧ Below w.heap.size w w' := by
  have hbx : Below w.heap.size w (w.alloc (.cells #[.int .i64 2, .int .i64 f, .slice ia n c, .slice oa m d] 28)) := below_box _
  obtain ⟨c0, c1, c2⟩ := kn_cells (hE.below hbx (Nat.le_refl _))
  have hs0 : (w.alloc (.cells #[.int .i64 2, .int .i64 f, .slice ia n c, .slice oa m d] 28)).heap.size = w.heap.size + 1 := by simp
  have HE : Hid (Ev w) := hE
  have HT : Hid (TxAt w ia n oa m rs os) := h
  have HOK : Hid (TxOk 2 f rs os) := hok
  have HRL : Hid (∀ j, j < os.length → ruleR (os.getD j O0).l (os.getD j O0).x (os.getD j O0).y = 0) := hrl
  have HN : Hid (rs.length = n) := h.r.1
  have HM : Hid (os.length = m) := h.o.1
  obtain ⟨df, hdf⟩ : ∃ z, z = dec f := ⟨_, rfl⟩
  have HDF : Hid (dec f = df) := hdf.symm
  obtain ⟨rt, hrt⟩ : ∃ z, z = refsW rs := ⟨_, rfl⟩
  have HRT : Hid (refsW rs = rt) := hrt.symm
  have HD1 : Hid (Wd w ((w.alloc (.cells #[.int .i64 2, .int .i64 f, .slice ia n c, .slice oa m d] 28)).alloc (.cells #[.string (str [108, 101, 97, 118, 101])] 9)) 2 f ia n c oa m d (.slice (some ⟨w.heap.size + 1, 0, none⟩) 1 1) 1 [[108, 101, 97, 118, 101]]) := ⟨block_at2, below_box2 _ _, by
    have := own_one (w.alloc (.cells #[.int .i64 2, .int .i64 f, .slice ia n c, .slice oa m d] 28)) (str [108, 101, 97, 118, 101]) (base := w.heap.size + 1) (by rw [hs0]; exact Nat.le_refl _)
    rw [hs0] at this
    exact this⟩
  have hM := hasMember_any 2
  have HRR : Hid (∀ v, Below w.heap.size w v → Calls Tryz.prog 48 #[.slice ia n c] v fun e w' => e = .returned (.string (str rt)) ∧ Below v.heap.size v w') := fun v hv => by
    rw [hrt]; exact writeRefs_any n c ia rs v (by have := hok.n; rw [h.r.1] at this; exact this) (fun j hj => hok.r j (by rw [h.r.1]; exact hj)) (h.r.below hv (Nat.le_refl _)) (hE.tb.below hv (Nat.le_refl _))
  have hA : Calls Tryz.prog 47 #[.int .i64 f] ((w.alloc (.cells #[.int .i64 2, .int .i64 f, .slice ia n c, .slice oa m d] 28)).alloc (.cells #[.string (str [108, 101, 97, 118, 101])] 9)) fun e w' => e = .returned (.string (str df)) ∧ Below ((w.alloc (.cells #[.int .i64 2, .int .i64 f, .slice ia n c, .slice oa m d] 28)).alloc (.cells #[.string (str [108, 101, 97, 118, 101])] 9)).heap.size ((w.alloc (.cells #[.int .i64 2, .int .i64 f, .slice ia n c, .slice oa m d] 28)).alloc (.cells #[.string (str [108, 101, 97, 118, 101])] 9)) w' := by
    rw [hdf]; exact writeNumber_any hok.f.1 hok.f.2 _ (hE.tb.below HD1.out.bel (Nat.le_refl _))
  have hm4 : m ≤ 4 := by have := hok.m; rw [h.o.1] at this; exact this
  clear hdf hrt hok hrl h hE hbx hs0 
  go_enter Tryz.func24, Tryz.ntmps24
  go_wp2_with (first
    | (go_at_call 46; refine (hM _).mono ?_; rintro e w' ⟨rfl, hw⟩; have hw2 := hw.symm; subst hw2)
    | (go_at_call 47; (with_reducible refine hA.mono ?_); clear hA; rintro e w2 ⟨rfl, hb2⟩; obtain ⟨g1, k1, w3, hrun, HD2⟩ := HD1.out.add hb2 (by omega) df; clear hb2)
    | (go_at_call 48; (with_reducible refine hR.mono ?_); clear hR; rintro e w4 ⟨rfl, hb4⟩; obtain ⟨g2, k2, w5, hrun, HD5⟩ := HD2.out.add hb4 (by omega) rt; clear hb4)
    | (at_builtin; go_must (first
        | (have hrun' := hrun; have hD5 := HD5; (refine wpList_append_run (by rfl) _ _ _ (by rfl) (by rfl) (by rfl) hrun' ?_); clear hrun hrun'; obtain ⟨q0, q1, q2, q3, _⟩ := cells4 HD5.out.box)
        | ((refine wpList_append_run (by rfl) _ _ _ (by rfl) (by rfl) (by rfl) hrun ?_); clear hrun; obtain ⟨p0, p1, p2, p3, _⟩ := cells4 HD2.out.box; have hR := HRR.out w3 HD2.out.bel))))
  go_loopw [3, 29] (fun v i wr => ∃ j : Nat, j ≤ m ∧ i = .int .i64 j ∧ Hid (Wd w wr 2 f ia n c oa m d v (3 + j) ([[108, 101, 97, 118, 101], df] ++ [rt] ++ (os.take j).map outW))) (fun _ i _ => m - (intOf i).toNat)
  case atStart => exact ⟨0, Nat.zero_le _, rfl, by show Wd _ _ _ _ _ _ _ _ _ _ _ _ _; simpa using HD5.out⟩
  case round =>
    obtain ⟨j, hj, rfl, HD⟩ := hrel
    have hbel := HD.out.bel
    by_cases hlt : j < m
    · rcases HT.out.o.2 with h0 | ⟨b, off, e0, l0, d0⟩
      · omega
      subst e0
      obtain ⟨o, ho⟩ : ∃ o, o = os.getD j O0 := ⟨_, rfl⟩
      obtain ⟨ka, kn, kc, y0, y1, y2, y3, y4, y5⟩ := d0 j hlt
      have hoo := HOK.out.o j (by rw [HM.out]; exact hlt)
      have hrr := HRL.out j (by rw [HM.out]; exact hlt)
      rw [← ho] at y0 y2 y3 y5 hoo hrr
      have HX : Hid ((os.take (j + 1)).map outW = (os.take j).map outW ++ [outW o]) := take_outs HM.out hlt ho
      obtain ⟨ow, how⟩ : ∃ z, z = outW o := ⟨_, rfl⟩
      have HOW : Hid (outW o = ow) := how.symm
      rw [HOW.out] at HX
      obtain ⟨ov, ol, ox, oy⟩ := o
      obtain rfl := y5.1
      have x0 := (hbel.cell (p := ⟨b, off + j * 4, none⟩) l0).trans y0
      have x1 := (hbel.cell (p := ⟨b, off + j * 4 + 1, none⟩) l0).trans y1
      have x2 := (hbel.cell (p := ⟨b, off + j * 4 + 2, none⟩) l0).trans y2
      have x3 := (hbel.cell (p := ⟨b, off + j * 4 + 3, none⟩) l0).trans y3
      simp only at x0 x1 x2 x3 hoo hrr y5
      have hol : ol.length ≤ 1048576 := by have := hoo.n.2; simp only at this; omega
      have hb6 : Below w.heap.size w (wr.alloc (.cells #[.int .i64 ov, .slice ka ol.length kc, .int .i64 ox, .int .i64 oy] 44)) := hbel.trans ((below_box _).mono hbel.size)
      have hW := writeOut_any ⟨ov, ol, ox, oy⟩ ka ol.length kc (wr.alloc (.cells #[.int .i64 ov, .slice ka ol.length kc, .int .i64 ox, .int .i64 oy] 44)) hoo hrr hol (y5.below hb6 (Nat.le_refl _)) (HE.out.tb.below hb6 (Nat.le_refl _)) ((HE.out.below hb6 (Nat.le_refl _)).rep)
      have e9 : str (dec ov ++ (61 :: (rtxR ol ox oy).map swp)) = str ow := by rw [how]; rfl
      simp only at hW
      rw [e9] at hW
      have HBX : Hid (Below wr.heap.size wr (wr.alloc (.cells #[.int .i64 ov, .slice ka ol.length kc, .int .i64 ox, .int .i64 oy] 44))) := below_box _
      clear ho d0 y0 y1 y2 y3 y4 y5 hoo hrr how e9 hb6 hol HOW
      have hki : (j : Int) < (m : Int) := by omega
      go_wp2_with (first
        | (go_at_call 49; (with_reducible refine hW.mono ?_); clear hW; rintro e w7 ⟨rfl, hb7⟩; obtain ⟨g3, k3, w8, hrun, HD8⟩ := HD.out.add (HBX.out.trans (hb7.mono HBX.out.size)) (by omega) ow; clear hb7)
        | (at_builtin; go_must (refine wpList_append_run (by rfl) _ _ _ (by rfl) (by rfl) (by rfl) hrun ?_); clear hrun))
      go_roundw
      case rel => exact ⟨j + 1, by omega, by go_num, by show Wd _ _ _ _ _ _ _ _ _ _ _ _ _; rw [HX.out, ← List.append_assoc]; exact HD8.out⟩
      case measure => simp [intOf]; omega
    · have e1 : os.take j = os := List.take_of_length_le (by rw [HM.out]; omega)
      have HZ : Hid (Wd w wr 2 f ia n c oa m d u3 (3 + j) (wordsT 2 f rs os)) := by
        have hz := HD.out
        rw [e1] at hz
        have e2 : wordsT 2 f rs os = [[108, 101, 97, 118, 101], df] ++ [rt] ++ os.map outW := by unfold wordsT; rw [HRT.out]; simp [kindW, HDF.out]
        rw [e2]; exact hz
      clear e1
      go_wp2
      go_ret
      exact ⟨_, _, rfl, HZ.out.row, HZ.out.bel⟩

theorem txWords_any (n c m d : Nat) (ia oa : Option Addr) (k f : Int) (rs : List (Int × Int)) (os : List Ou) (w : World) (hok : TxOk k f rs os) (hrl : ∀ j, j < os.length → ruleR (os.getD j O0).l (os.getD j O0).x (os.getD j O0).y = 0) (h : TxAt w ia n oa m rs os) (hE : Ev w) :
    Calls Tryz.prog 24 #[.agg #[.int .i64 k, .int .i64 f, .slice ia n c, .slice oa m d]] w fun e w' => ∃ v N, e = .returned v ∧ w'.ownsRow (w.heap.size + 1) 9 1 v N (texts (wordsT k f rs os)) ∧ Below w.heap.size w w' := by
  rcases hok.k with rfl | rfl | rfl
  · exact txWords_0 n c m d ia oa f rs os w hok hrl h hE
  · exact txWords_1 n c m d ia oa f rs os w hok hrl h hE
  · exact txWords_2 n c m d ia oa f rs os w hok hrl h hE

end Go.Proofs.YtciefdphjkjikaaGreatDoor
