/- The program's refs written. -/
import Derived.Test.YtjgilpkkfpbefaaGreatDoorTtW
import Derived.Test.YtjgilpkkfpbefaaGreatDoorTtJ
import Derived.Deep.RegionLaw
namespace Go.Proofs.YtjgilpkkfpbefaaGreatDoor
open Go.RowKit Go.Shelf Go.Maps Go.WideMaps

def texts (ls : List (List UInt8)) : List Value := ls.map fun t => .string (str t)
theorem texts_more (ls : List (List UInt8)) (t : List UInt8) : texts (ls ++ [t]) = texts ls ++ [.string (str t)] := by simp [texts]

/-- A word more: what the append leaves. -/
theorem word_added {W w2 : World} {B k : Nat} {v : Value} {xs : List Value} (s : ByteArray) (hrow : W.ownsRow B 9 1 v k xs) (hb : Below W.heap.size W w2) (hB : B ≤ W.heap.size) (hk : k ≤ 100) :
    ∃ g cap w3, (Builtin.append_ #[22, 22] 22 #[v, .slice (some ⟨w2.heap.size, 0, none⟩) 1 1]).run Tryz.prog (w2.alloc (.cells #[.string s] 9)) = .ok (.slice (some ⟨g, 0, none⟩) (k + 1) cap) w3 ∧
      Hid (w3.ownsRow B 9 1 (.slice (some ⟨g, 0, none⟩) (k + 1) cap) (k + 1) (xs ++ [.string s]) ∧ Below B W w3) := by
  obtain ⟨i0, hi, hz0, hz1, hz2⟩ := info_parts Tryz.infoStr
  have hg2 := grown_of_below hb
  have hrow2 : w2.ownsRow B 9 1 v k xs := hrow.kept hg2 (by cases Value.ownBlock v <;> simp)
  have hs2 := hb.size
  obtain ⟨v', w3, hrun, hown', hgrow, _⟩ := run_append_own (P := Tryz.prog) (w2.alloc (.cells #[.string s] 9)) B 22 22 9 i0 (.string ByteArray.empty) 1 16 Tryz.underlying22 hi hz0 hz1 hz2 rfl (by decide) v k _ (hrow2.alloc _) ⟨w2.heap.size, 0, none⟩ 1 1 [.string s] rfl (cell_one_new _ _ _) (by simp [Value.oneCell']) (by unfold maxLen; omega) (by omega) (by simp; omega)
  obtain ⟨g, cap, rfl⟩ := ownsRow_succ hown'
  refine ⟨g, cap, w3, hrun, hown', ?_⟩
  exact Below.grown ((hb.mono hB).trans ((below_box _).mono (by omega))) hgrow (by simp; omega) (fun q hq => (hrow.lt q hq).1)

/-- An append in a plain region, out of its own run. -/
theorem wpList_append_runT {P : Program} {w : World} {ops : Array Oper} {rest : List Oper} {o : Oper} {a : Act} {Q : Exit → Act → World → Prop} (hgd : o.guard = none) (s x : Operand) (t : TypeId)
    (hop : o.op = .call { callee := .builtin .append, args := #[s, x], argTypes := #[t, t] }) {v u v' : Value} {w' : World} (hs : a.eval s = v) (hx : a.eval x = u) (hrun : (Builtin.append_ #[t, t] o.type #[v, u]).run P w = .ok v' w') (h : wpList P ops Q rest (a.put o.dst v') w') :
    wpList P ops Q (o :: rest) a w :=
  wpList_plain hgd fun _ hK => by
    unfold Oper.wp
    simp [execOp, hop, resolve, invoke, builtin, hs, hx, hrun, Result.andThen]
    exact hK _ _ h

/-- Words joined. -/
theorem join_any (c : UInt8) (v : Value) (W : World) {ls : List (List UInt8)} {n base : Nat} (hrow : W.ownsRow base 9 1 v n (texts ls)) (hn : n = ls.length) (h3 : ls.length ≤ 100) (htot : (Lib.join ls [c]).length ≤ 100000) :
    Calls Tryz.prog 131 #[v, .string ⟨#[c]⟩] W fun e w' => e = .returned (.string (str (Lib.join ls [c]))) ∧ Below W.heap.size W w' := by
  subst hn
  have hmap : (ls.map str).map (·.data.toList) = ls := by
    rw [List.map_map]
    conv => rhs; rw [← List.map_id ls]
    apply List.map_congr_left
    intro k _
    simp [str]
  rcases id hrow.2 with ⟨rfl, h0⟩ | ⟨g, cp, cur, rfl, _, _, h1, _⟩
  · obtain rfl : ls = [] := List.length_eq_zero_iff.1 h0
    exact (Tryz.strings_Join_none none 0 ⟨#[c]⟩ W).mono fun e w' ⟨he, hw⟩ => ⟨he, hw ▸ Below.refl _ _⟩
  · have hJ := Tryz.strings_Join g 0 cp (ls.map str) ⟨#[c]⟩ W (fun j x hj => by
      have hjl : j < ls.length := by
        have := (List.getElem?_eq_some_iff.1 hj).1
        simpa using this
      rw [Nat.zero_add, hrow.cellAt j (by omega)]
      simp [texts]
      simp at hj
      obtain ⟨a, ha, rfl⟩ := hj
      exact ⟨a, ha, rfl⟩) (hrow.lt g rfl).2 (by simp; omega) (by simpa using h1) (by
        show (Lib.join _ [c]).length ≤ _
        rw [hmap]
        omega)
    rw [List.length_map] at hJ
    refine hJ.mono fun e w' ⟨he, hb⟩ => ⟨?_, hb⟩
    rw [he]
    show Ending.returned (.string ⟨(Lib.join _ [c]).toArray⟩) = _
    rw [hmap]
    rfl

theorem refT_len {r : Int × Int} (h1 : r.1 ≤ 999) (h2 : r.2 ≤ 999) : (refT r).length ≤ 21 := by
  have a := dec_len h1
  have b := dec_len h2
  simp [refT]; omega
theorem flat_len {α : Type} (f : α → List UInt8) (b : Nat) : ∀ l : List α, (∀ x ∈ l, (f x).length ≤ b) → (l.flatMap f).length ≤ b * l.length := by
  intro l
  induction l with
  | nil => intro _; simp
  | cons a t ih =>
    intro h
    have h1 := h a (by simp)
    have h2 := ih fun x hx => h x (by simp [hx])
    rw [List.flatMap_cons, List.length_append, List.length_cons, Nat.mul_add]
    omega
theorem refsW_len {rs : List (Int × Int)} (hn : rs.length ≤ 4) (h : ∀ r ∈ rs, r.1 ≤ 999 ∧ r.2 ≤ 999) : (refsW rs).length ≤ 200 := by
  cases rs with
  | nil => simp [refsW, Lib.join, List.intercalate]
  | cons a t =>
    unfold refsW
    rw [List.map_cons, join_flat, List.flatMap_map]
    have h1 := refT_len (h a (by simp)).1 (h a (by simp)).2
    have h2 := flat_len (fun r => [43] ++ refT r) 22 t fun r hr => by
      have := refT_len (h r (by simp [hr])).1 (h r (by simp [hr])).2
      simp; omega
    simp at hn
    rw [List.length_append]
    have h3 : (t.flatMap (fun r => [43] ++ refT r)).length = (List.flatMap (fun a => [43] ++ refT a) t).length := rfl
    omega

set_option maxRecDepth 20000 in
set_option maxHeartbeats 2000000 in
theorem writeRefs_any (n c : Nat) (ia : Option Addr) (rs : List (Int × Int)) (w : World) (hn4 : n ≤ 4) (hrb : ∀ j, j < n → (0 ≤ (rs.getD j G0).1 ∧ (rs.getD j G0).1 ≤ 999) ∧ 0 ≤ (rs.getD j G0).2 ∧ (rs.getD j G0).2 ≤ 999) (h : GAt w ia n rs) (hTb : Tb w) :
    Calls Tryz.prog 147 #[.slice ia n c] w fun e w' => e = .returned (.string (str (refsW rs))) ∧ Below w.heap.size w w' := by
  have HN : Hid (rs.length = n) := h.1
  have HG : Hid (GAt w ia n rs) := h
  have HR : Hid (∀ j, j < n → (0 ≤ (rs.getD j G0).1 ∧ (rs.getD j G0).1 ≤ 999) ∧ 0 ≤ (rs.getD j G0).2 ∧ (rs.getD j G0).2 ≤ 999) := hrb
  have HTB : Hid (Tb w) := hTb
  obtain ⟨rt, hrt⟩ : ∃ q, q = refsW rs := ⟨_, rfl⟩
  rw [← hrt]
  have HRT : Hid (rt = refsW rs) := hrt
  clear h hrb hTb hrt
  go_enter Tryz.func147, Tryz.ntmps147
  go_wp2
  go_loopw [3, 8] (fun v i wr => ∃ j : Nat, j ≤ n ∧ i = .int .i64 j ∧ Hid (wr.ownsRow w.heap.size 9 1 v j (texts ((rs.take j).map refT))) ∧ Below w.heap.size w wr) (fun _ i _ => n - (intOf i).toNat)
  case atStart => exact ⟨0, Nat.zero_le _, rfl, by show World.ownsRow _ _ _ _ _ _ _; simp [texts]; exact World.ownsRow_nil _ _ _ _, Below.refl _ _⟩
  case round =>
    obtain ⟨j, hj, rfl, HO, hbel⟩ := hrel
    by_cases hlt : j < n
    · rcases HG.out.2 with h0 | ⟨b, off, e0, l0, d0⟩
      · omega
      subst e0
      obtain ⟨g, hg⟩ : ∃ g, g = rs.getD j G0 := ⟨_, rfl⟩
      have hcx := d0 j hlt
      have hrb := HR.out j hlt
      rw [← hg] at hcx hrb
      obtain ⟨g1, g2⟩ := g
      have c0 := (hbel.cell (p := ⟨b, off + j * 2, none⟩) l0).trans hcx.1
      have c1 := (hbel.cell (p := ⟨b, off + j * 2 + 1, none⟩) l0).trans hcx.2
      obtain ⟨d, hd⟩ : ∃ o, o = refT (g1, g2) := ⟨_, rfl⟩
      have hb1 : Below wr.heap.size wr (wr.alloc (.cells #[.int .i64 g1, .int .i64 g2] 81)) := below_box _
      have hA : Calls Tryz.prog 156 #[.agg #[.int .i64 g1, .int .i64 g2]] (wr.alloc (.cells #[.int .i64 g1, .int .i64 g2] 81)) fun e w' => e = .returned (.string (str d)) ∧ Below (wr.alloc (.cells #[.int .i64 g1, .int .i64 g2] 81)).heap.size (wr.alloc (.cells #[.int .i64 g1, .int .i64 g2] 81)) w' := by rw [hd]; exact writeRef_any g1 g2 _ hrb.1 hrb.2 (HTB.out.below (hbel.trans (hb1.mono hbel.size)) (Nat.le_refl _))
      have HX : Hid ((rs.take (j + 1)).map refT = (rs.take j).map refT ++ [d]) := by
        show _ = _
        rw [take_next2 HN.out hlt hg, List.map_append, hd]
        rfl
      have HB1 : Hid (Below wr.heap.size wr (wr.alloc (.cells #[.int .i64 g1, .int .i64 g2] 81))) := hb1
      clear hg hd hrb hcx d0 hb1
      have hki : (j : Int) < (n : Int) := by omega
      go_wp2_with (first
        | (go_at_call 156; (with_reducible refine hA.mono ?_); clear hA; rintro e w2 ⟨rfl, hb2⟩; obtain ⟨ga, gc, w4, hrun, HW⟩ := word_added (str d) HO.out (HB1.out.trans (hb2.mono HB1.out.size)) hbel.size (by omega); clear hb2)
        | (at_builtin; go_must (refine wpList_append_runT (by rfl) _ _ _ (by rfl) (by rfl) (by rfl) hrun ?_); clear hrun))
      go_roundw
      case rel => exact ⟨j + 1, by omega, by go_num, by show World.ownsRow _ _ _ _ _ _ _; rw [HX.out, texts_more]; exact HW.out.1, hbel.trans HW.out.2⟩
      case measure => simp [intOf]; omega
    · have e1 : rs.take j = rs := List.take_of_length_le (by rw [HN.out]; omega)
      have hjn : j = n := by omega
      have HO2 := HO.out
      rw [e1] at HO2
      have hJ := join_any 43 u3 wr HO2 (by rw [List.length_map, HN.out]; exact hjn) (by rw [List.length_map, HN.out]; omega) (by
        have := refsW_len (rs := rs) (by rw [HN.out]; exact hn4) (fun r hr => by
          obtain ⟨i, hi, e⟩ := List.getElem_of_mem hr
          have h1 := HR.out i (by rw [← HN.out]; exact hi)
          have h2 : rs.getD i G0 = r := by rw [List.getD, List.getElem?_eq_getElem hi, ← e]; rfl
          rw [h2] at h1
          exact ⟨h1.1.2, h1.2.2⟩)
        unfold refsW at this
        omega)
      have hJ2 : Calls Tryz.prog 131 #[u3, .string ⟨#[43]⟩] wr fun e w' => e = .returned (.string (str rt)) ∧ Below wr.heap.size wr w' := by rw [HRT.out]; exact hJ
      clear hJ e1 HO2
      go_wp2_with (go_at_call 131; refine hJ2.mono ?_; rintro e w5 ⟨rfl, hb5⟩)
      go_ret
      exact ⟨rfl, hbel.trans (hb5.mono hbel.size)⟩

end Go.Proofs.YtjgilpkkfpbefaaGreatDoor
