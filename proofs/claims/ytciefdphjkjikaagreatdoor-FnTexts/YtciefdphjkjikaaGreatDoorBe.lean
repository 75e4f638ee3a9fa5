/- Underscores replaced by blanks; outs appended; the program's readOut: what a word tells, or a panic. -/
import Derived.Test.YtciefdphjkjikaaGreatDoorBd
import Derived.Test.YtciefdphjkjikaaGreatDoorJn4
import Derived.Test.YtciefdphjkjikaaGreatDoorDx
namespace Go.Proofs.YtciefdphjkjikaaGreatDoor
open Go.RowKit Go.Shelf Go.Maps Go.WideMaps

theorem index_blankQ (l : List UInt8) : Lib.index (95 :: l) [95] = 0 := by
  unfold Lib.index
  simp [List.isPrefixOf]
theorem index_otherQ {b : UInt8} (h : b ≠ 95) (l : List UInt8) : Lib.index (b :: l) [95] = if Lib.index l [95] == -1 then -1 else Lib.index l [95] + 1 := by
  have hb : (95 == b) = false := by simpa using fun e => h (Eq.symm e)
  conv => lhs; unfold Lib.index
  simp [List.isPrefixOf, hb]
theorem repl_otherQ {b : UInt8} (h : b ≠ 95) (l new : List UInt8) (c : Nat) : Lib.replaceK [95] new c (b :: l) = b :: Lib.replaceK [95] new c l := by
  cases c with
  | zero => rfl
  | succ c =>
    rw [Lib.replaceK, Lib.replaceK, index_otherQ h]
    by_cases e : (Lib.index l [95] == -1) = true
    · rw [if_pos e, if_pos e, if_pos (by rfl)]
    · rw [if_neg e]
      have hs := Lib.index_ge l [95]
      have hne : Lib.index l [95] ≠ -1 := by simpa using e
      obtain ⟨i, hi⟩ : ∃ i : Nat, Lib.index l [95] = i := ⟨(Lib.index l [95]).toNat, by omega⟩
      rw [hi]
      have h1 : ((i : Int) == -1) = false := by simp
      have h2 : ((i : Int) + 1 == -1) = false := by simp; omega
      have h3 : ((i : Int) + 1).toNat = i + 1 := by omega
      simp [h1, h2, h3]
theorem count_otherQ {b : UInt8} (h : b ≠ 95) (l : List UInt8) (f : Nat) : Lib.countFrom [95] f (b :: l) = Lib.countFrom [95] f l := by
  cases f with
  | zero => rfl
  | succ f =>
    rw [Lib.countFrom, Lib.countFrom, index_otherQ h]
    by_cases e : (Lib.index l [95] == -1) = true
    · rw [if_pos e, if_pos e, if_pos (by rfl)]
    · rw [if_neg e]
      have hs := Lib.index_ge l [95]
      have hne : Lib.index l [95] ≠ -1 := by simpa using e
      obtain ⟨i, hi⟩ : ∃ i : Nat, Lib.index l [95] = i := ⟨(Lib.index l [95]).toNat, by omega⟩
      rw [hi]
      have h1 : ((i : Int) == -1) = false := by simp
      have h2 : ((i : Int) + 1 == -1) = false := by simp; omega
      have h3 : ((i : Int) + 1).toNat = i + 1 := by omega
      simp [h1, h2, h3]
theorem repl_countQ (l : List UInt8) : ∀ f, l.length < f → Lib.replaceK [95] [32] (Lib.countFrom [95] f l) l = l.map swq := by
  induction l with
  | nil =>
    intro f _
    have : Lib.countFrom [95] f [] = 0 := by
      cases f with
      | zero => rfl
      | succ f => rfl
    rw [this]; rfl
  | cons b t ih =>
    intro f hf
    by_cases hb : b = 95
    · subst hb
      cases f with
      | zero => simp at hf
      | succ f =>
        have e1 : Lib.countFrom [95] (f + 1) (95 :: t) = Lib.countFrom [95] f t + 1 := by
          rw [Lib.countFrom, index_blankQ]
          simp [Nat.add_comm]
        rw [e1, Lib.replaceK, index_blankQ]
        have := ih f (by simp at hf; omega)
        simp [this, swq]
    · rw [count_otherQ hb, repl_otherQ hb, ih f (by simp at hf; omega)]
      simp [swq, hb]
theorem repl_swapQ (l : List UInt8) : Lib.replaceAll l [95] [32] = l.map swq := by
  have h : Lib.replaceNum l [95] (-1) = Lib.count l [95] := by unfold Lib.replaceNum; rw [if_pos (.inl (by omega))]
  unfold Lib.replaceAll Lib.replace
  rw [if_neg (by decide), h]
  exact repl_countQ l _ (Nat.lt_succ_self _)

theorem replQ_any (t : List UInt8) (z : Int) (W : World) (ht : t.length ≤ 1048576) (hz : W.cell? ⟨1, 0, none⟩ = some (.int .i64 z)) :
    Calls Tryz.prog 77 #[.string (str t), .string ⟨#[95]⟩, .string ⟨#[32]⟩] W fun e w' => e = .returned (.string (str (t.map swq))) ∧ Below W.heap.size W w' := by
  have hs : (str t).size = t.length := rfl
  have hcb := Lib.countB_le ⟨#[95]⟩ (by decide) (str t).size (str t) (Nat.le_refl _)
  have hr := Tryz.strings_ReplaceAll (str t) ⟨#[95]⟩ ⟨#[32]⟩ z W (by rw [hs]; omega) hz (by decide) (by
    have e : (⟨#[32]⟩ : ByteArray).size = 1 := rfl
    rw [e]; omega)
  have e1 : (⟨(Lib.replaceAll (str t).data.toList [95] [32]).toArray⟩ : ByteArray) = str (t.map swq) := by
    have : (str t).data.toList = t := by simp [str]
    rw [this, repl_swapQ]; rfl
  refine hr.mono fun e w' ⟨he, hb⟩ => ⟨?_, hb⟩
  rw [he]
  exact congrArg (fun q => Ending.returned (.string q)) e1

/-- An out more: what the append leaves. -/
theorem out_added {W : World} {lo X j : Nat} {v u : Value} {f : Nat → Ou} {kv : Nat → Value} {o : Ou} (h : OOwn W lo W.heap.size v j f kv) (hX : W.heap[X]? = some (.cells #[.int .i64 o.v, u, .int .i64 o.x, .int .i64 o.y] 44 (0, 0))) (hu1 : u.oneCell' = true) (hrow : W.ownsRow lo 2 1 u o.l.length (ints o.l)) (hap : ∀ i, i < j → ∀ b, (kv i).ownBlock = some b → u.ownBlock ≠ some b) (hj : j ≤ 1100000) (hlo : lo ≤ W.heap.size) (hf : f j = o) :
    ∃ g cap w5, (Builtin.append_ #[26, 26] 26 #[v, .slice (some ⟨X, 0, none⟩) 1 1]).run Tryz.prog W = .ok (.slice (some ⟨g, 0, none⟩) (j + 1) cap) w5 ∧
      Hid (OOwn w5 lo w5.heap.size (.slice (some ⟨g, 0, none⟩) (j + 1) cap) (j + 1) f (fun i => if i = j then u else kv i) ∧ W.grownBy w5 v.ownBlock) := by
  obtain ⟨i0, hi, hz0, hz1, hz2⟩ := info_parts Tryz.infoOut
  obtain ⟨xs, hown, hcells⟩ := h.row
  obtain ⟨v', w5, hrun, hown', hgrow, hsome⟩ := run_append_own (P := Tryz.prog) W lo 26 26 44 i0 (.agg #[.int .i64 0, .slice none 0 0, .int .i64 0, .int .i64 0]) 4 48 Tryz.underlying26 hi hz0 hz1 hz2 rfl (by decide) v j xs hown ⟨X, 0, none⟩ 1 1 [.int .i64 o.v, u, .int .i64 o.x, .int .i64 o.y] rfl (World.news_of_block hX) (by
    intro z hz
    simp only [List.mem_cons, List.not_mem_nil, or_false] at hz
    rcases hz with rfl | rfl | rfl | rfl <;> first | rfl | exact hu1) (by unfold maxLen; omega) (by omega) hlo
  obtain ⟨g, cap, rfl⟩ := ownsRow_succ hown'
  have hxl := hown.1
  have kp : ∀ (z : Value) (d : Nat) (zs : List Value), W.ownsRow lo 2 1 z d zs → w5.ownsRow lo 2 1 z d zs := fun z d zs hz => hz.kept hgrow (by
    cases e : z.ownBlock with
    | none => exact .inl rfl
    | some b => exact .inr fun e2 => rows_apart (by decide) hown hz b e2.symm e)
  refine ⟨g, cap, w5, hrun, ⟨⟨_, hown', fun i hi => ?_⟩, fun b hb => (hown'.lt b hb).2, fun i hi => ?_, fun i k hik hk b hb => ?_⟩, hgrow⟩
  · by_cases e : i = j
    · subst e
      rw [if_pos rfl, hf]
      refine ⟨?_, ?_, ?_, ?_⟩ <;> (rw [List.getElem?_append_right (by omega), hxl]; simp)
    · obtain ⟨a0, a1, a2, a3⟩ := hcells i (by omega)
      rw [if_neg e]
      refine ⟨?_, ?_, ?_, ?_⟩
      · rw [List.getElem?_append_left (by omega)]; exact a0
      · rw [List.getElem?_append_left (by omega)]; exact a1
      · rw [List.getElem?_append_left (by omega)]; exact a2
      · rw [List.getElem?_append_left (by omega)]; exact a3
  · by_cases e : i = j
    · subst e
      rw [if_pos rfl, hf]
      exact ⟨kp _ _ _ hrow, fun b hb => ((kp _ _ _ hrow).lt b hb).2⟩
    · rw [if_neg e]
      have := kp _ _ _ (h.keys i (by omega)).1
      exact ⟨this, fun b hb => (this.lt b hb).2⟩
  · rw [if_neg (by omega)] at hb
    by_cases e : k = j
    · rw [if_pos e]; exact hap i (by omega) b hb
    · rw [if_neg e]; exact h.apart i k hik (by omega) b hb

/-- Four cells set. -/
abbrev four (R : Nat) (u : World) (v0 v1 v2 v3 : Value) : World := (((u.setCell ⟨R, 0, none⟩ v0).setCell ⟨R, 1, none⟩ v1).setCell ⟨R, 2, none⟩ v2).setCell ⟨R, 3, none⟩ v3
/-- What holds in the midst of the region. -/
structure Rr6 (W : World) (R X ln vc : Nat) (va : Option Addr) (ox oy : Int) (pa : List UInt8) (v : World) (b0 b1 b2 b3 b4 b5 : Bool) (x18 x19 x20 x21 x22 : Value) : Prop where
  bel : b5 = false → Below W.heap.size W v
  f0 : b0 = true → x18 = .string (str pa)
  f1 : b1 = true → ∃ z, rnum pa = some z ∧ x19 = .int .i64 z
  f2 : b2 = true → x20 = .pointer (some ⟨X, 1, none⟩)
  f3 : b3 = true → x21 = .agg #[.slice va ln vc, .int .i64 ox, .int .i64 oy]
  f4 : b4 = true → ∃ z, rnum pa = some z ∧ x22 = .agg #[.int .i64 z, .slice va ln vc, .int .i64 ox, .int .i64 oy]
  o4 : b4 = true → b1 = true
  o43 : b4 = true → b3 = true
  o5 : b5 = true → b4 = true
  f5 : b5 = true → ∃ z u, rnum pa = some z ∧ Below W.heap.size W u ∧ v = four R u (.int .i64 z) (.slice va ln vc) (.int .i64 ox) (.int .i64 oy)
/-- What readOut leaves. -/
def OutRo (w w' : World) (e : Ending) (p : List UInt8) : Prop := Below w.heap.size w w' ∧ ((∃ o va vc, rout p = some o ∧ e = .returned (.agg #[.int .i64 o.v, .slice va o.l.length vc, .int .i64 o.x, .int .i64 o.y]) ∧ w'.ownsRow w.heap.size 2 1 (.slice va o.l.length vc) o.l.length (ints o.l)) ∨ (rout p = none ∧ e = .panicked pnC))
theorem rout_cut {p : List UInt8} (h : cutO p 61 = none) : rout p = none := by
  unfold cutO at h
  unfold rout
  split at h
  · cases h
  · rename_i hc; rw [if_neg (fun e => hc e.1)]
theorem rout_bad {p pa pb : List UInt8} (h : cutO p 61 = some (pa, pb)) (h2 : (prR (pb.map swq)).1 ≠ 0) : rout p = none := by
  unfold cutO at h
  unfold rout
  split at h
  · simp only [Option.some.injEq, Prod.mk.injEq] at h
    rw [h.2, if_neg (fun e => h2 e.2)]
  · cases h
theorem rout_of {p pa pb : List UInt8} {l : List Int} {x y : Int} (h : cutO p 61 = some (pa, pb)) (h2 : prR (pb.map swq) = (0, l, x, y)) : rout p = (match rnum pa with
    | some v => some ⟨v, l, x, y⟩
    | none => none) := by
  unfold cutO at h
  unfold rout
  split at h
  · rename_i hc
    simp only [Option.some.injEq, Prod.mk.injEq] at h
    rw [h.2, if_pos ⟨hc, by rw [h2]⟩, h2, h.1]
    cases rnum pa <;> rfl
  · cases h

set_option maxRecDepth 20000 in
set_option maxHeartbeats 4000000 in
theorem readOut_any (p : List UInt8) (m : Int) (w : World) (hp : p.length ≤ 1048576) (hm : w.cell? ⟨1, 0, none⟩ = some (.int .i64 m)) (hE : Erv w) (hTb : Tb w) :
    Calls Tryz.prog 71 #[.string (str p)] w fun e w' => OutRo w w' e p := by
  have hlm := World.block_lt_of_cell? _ _ hm
  have HM : Hid (∀ u, Below w.heap.size w u → u.cell? ⟨1, 0, none⟩ = some (.int .i64 m)) := fun u h => (h.cell (p := ⟨1, 0, none⟩) hlm).trans hm
  have HE : Hid (∀ u, Below w.heap.size w u → Erv u ∧ Tb u) := fun u h => ⟨hE.below h, hTb.below h (Nat.le_refl _)⟩
  have HB1 : Hid (Below w.heap.size w (w.alloc (.cells #[.int .i64 0, .slice none 0 0, .int .i64 0, .int .i64 0] 44))) := below_box _
  have HR1 : Hid ((w.alloc (.cells #[.int .i64 0, .slice none 0 0, .int .i64 0, .int .i64 0] 44)).heap[w.heap.size]? = some (.cells #[.int .i64 0, .slice none 0 0, .int .i64 0, .int .i64 0] 44 (0, 0))) := heap_alloc_new _ _
  have hs1 : (w.alloc (.cells #[.int .i64 0, .slice none 0 0, .int .i64 0, .int .i64 0] 44)).heap.size = w.heap.size + 1 := by simp
  have hC := cutAt_any p 61 m (w.alloc (.cells #[.int .i64 0, .slice none 0 0, .int .i64 0, .int .i64 0] 44)) hp (HM.out _ HB1.out)
  clear hm hlm hE hTb
  cases hct : cutO p 61 with
  | none =>
    rw [hct] at hC
    have hC' : Calls Tryz.prog 88 #[.string (str p), .string ⟨#[61]⟩] (w.alloc (.cells #[.int .i64 0, .slice none 0 0, .int .i64 0, .int .i64 0] 44)) fun e w' => e = .panicked pnC ∧ Below (w.alloc (.cells #[.int .i64 0, .slice none 0 0, .int .i64 0, .int .i64 0] 44)).heap.size (w.alloc (.cells #[.int .i64 0, .slice none 0 0, .int .i64 0, .int .i64 0] 44)) w' := hC
    clear hC
    go_enter Tryz.func71, Tryz.ntmps71
    go_wp2_with (first | (go_at_call 88; (with_reducible refine hC'.mono ?_); clear hC'; rintro e w2 ⟨rfl, hb2⟩))
    exact ⟨rfl, HB1.out.trans (hb2.mono HB1.out.size), .inr ⟨rout_cut hct, rfl⟩⟩
  | some pp =>
    obtain ⟨pa, pb⟩ := pp
    rw [hct] at hC
    have hC' : Calls Tryz.prog 88 #[.string (str p), .string ⟨#[61]⟩] (w.alloc (.cells #[.int .i64 0, .slice none 0 0, .int .i64 0, .int .i64 0] 44)) fun e w' => e = .returned (.tuple #[.string (str pa), .string (str pb)]) ∧ Hid (Below (w.heap.size + 1) (w.alloc (.cells #[.int .i64 0, .slice none 0 0, .int .i64 0, .int .i64 0] 44)) w') := hC.mono fun e w' ⟨h1, h2⟩ => ⟨h1, by rw [← hs1]; exact h2⟩
    have hpl := cutO_len hct
    obtain ⟨pq, hpq⟩ : ∃ q, q = pb.map swq := ⟨_, rfl⟩
    have hql : pq.length ≤ 1048576 := by rw [hpq, List.length_map]; omega
    have HR : Hid (∀ u, Below w.heap.size w u → Calls Tryz.prog 77 #[.string (str pb), .string ⟨#[95]⟩, .string ⟨#[32]⟩] u fun e w' => e = .returned (.string (str pq)) ∧ Hid (Below u.heap.size u w')) := fun u hu => by rw [hpq]; exact replQ_any pb m u (by omega) (HM.out u hu)
    have HP : Hid (∀ u, Below w.heap.size w u → Calls Tryz.prog 89 #[.string (str pq)] u fun e w' => OutPr u w' e pq) := fun u hu => iParseRule_any pq m u hql (HM.out u hu) (HE.out u hu).1 (HE.out u hu).2
    obtain ⟨⟨cd, l, ox, oy⟩, hpr⟩ : ∃ r, prR pq = r := ⟨_, rfl⟩
    have hB1' : Below w.heap.size w (w.alloc (.cells #[.int .i64 0, .slice none 0 0, .int .i64 0, .int .i64 0] 44)) := HB1.out
    clear hC
    obtain ⟨ln, hln⟩ : ∃ n, n = l.length := ⟨_, rfl⟩
    have HPR : Hid (∀ u, Below w.heap.size w u → Calls Tryz.prog 89 #[.string (str pq)] u fun e w' => ∃ va vc, e = .returned (.agg #[.int .i64 cd, .slice va ln vc, .int .i64 ox, .int .i64 oy]) ∧ Hid (World.ownsRow w' u.heap.size 2 1 (.slice va ln vc) ln (ints l)) ∧ Hid (Below u.heap.size u w')) := fun u hu => (HP.out u hu).mono fun e w' ⟨hb, va, vc, e1, hO⟩ => by
      rw [hpr] at e1 hO
      rw [hln]
      exact ⟨va, vc, e1, hO, hb⟩
    clear HP
    by_cases hz : cd = 0
    · subst hz
      have HRO : Hid (rout p = (match rnum pa with
        | some v => some ⟨v, l, ox, oy⟩
        | none => none)) := rout_of hct (by rw [← hpq]; exact hpr)
      have HLN : Hid (ln = l.length) := hln
      have hpal : pa.length ≤ 1048576 := by omega
      clear hct hpl hpq hpr hln hql
      go_enter Tryz.func71, Tryz.ntmps71
      go_wp2_with (first
        | (go_at_call 88; (with_reducible refine hC'.mono ?_); clear hC'; rintro e w2 ⟨rfl, HB2⟩; have HW2 : Hid (Below w.heap.size w w2) := HB1.out.trans (HB2.out.mono (by omega)); have hR := HR.out w2 HW2.out)
        | (go_at_call 77; (with_reducible refine hR.mono ?_); clear hR; rintro e w3 ⟨rfl, HB3⟩; have HW3 : Hid (Below w.heap.size w w3) := HW2.out.trans (HB3.out.mono HW2.out.size); have hP := HPR.out w3 HW3.out)
        | (go_at_call 89; (with_reducible refine hP.mono ?_); clear hP; rintro e w4 ⟨va, vc, rfl, HO4, HB4⟩; have HW4 : Hid (Below w.heap.size w w4) := HW3.out.trans (HB4.out.mono HW3.out.size)))
      have hsz2 : w.heap.size + 1 ≤ w2.heap.size := by have := HB2.out.size; simp at this; omega
      have hsz3 := HB3.out.size
      have hsz4 := HB4.out.size
      obtain ⟨W5, hW5⟩ : ∃ V, V = (w4.alloc (.cells #[.int .i64 0, .slice va ln vc, .int .i64 ox, .int .i64 oy] 127)) := ⟨_, rfl⟩
      have hbx : Below w4.heap.size w4 W5 := by rw [hW5]; exact below_box _
      have HBW : Hid (Below w.heap.size w W5) := HW4.out.trans (hbx.mono HW4.out.size)
      have HX5 : Hid (W5.heap[w4.heap.size]? = some (.cells #[.int .i64 0, .slice va ln vc, .int .i64 ox, .int .i64 oy] 127 (0, 0)) ∧ w4.heap.size < W5.heap.size) := by
        rw [hW5]; exact ⟨heap_alloc_new _ _, by simp⟩
      have HR5 : Hid (W5.heap[w.heap.size]? = some (.cells #[.int .i64 0, .slice none 0 0, .int .i64 0, .int .i64 0] 44 (0, 0)) ∧ w.heap.size < W5.heap.size) := by
        have h2 := (HB2.out.block w.heap.size (by omega)).trans HR1.out
        have h3 := (HB3.out.block w.heap.size (by omega)).trans h2
        have h4 := (HB4.out.block w.heap.size (by omega)).trans h3
        exact ⟨(hbx.block w.heap.size (by omega)).trans h4, by have := hbx.size; omega⟩
      have HO5 : Hid (W5.ownsRow w3.heap.size 2 1 (.slice va ln vc) ln (ints l)) := row_on HO4.out hbx
      have HN : Hid (∀ u, Below W5.heap.size W5 u → Calls Tryz.prog 69 #[.string (str pa)] u fun e w' => e = endR (rnum pa) (fun v => .int .i64 v) ∧ Below u.heap.size u w') := fun u hu => readNumber_any pa u hpal (HE.out u (HBW.out.trans (hu.mono HBW.out.size))).1 (HE.out u (HBW.out.trans (hu.mono HBW.out.size))).2
      rw [← hW5]
      clear hW5 hbx
      refine wp_region_any (by kernel_rfl) ?_
      change wpAny _ _ _ _ _ _ _ (World.drew _)
      refine wpAny_inv (fun L a v => ∃ (b0 b1 b2 b3 b4 b5 : Bool) (x18 x19 x20 x21 x22 : Value), L = #[b0, b1, b2, b3, b4, b5] ∧ a = { tmps := #[.string (str p), undef, .pointer (some ⟨w.heap.size, 0, none⟩), .string (str pa), .string (str pb), .pointer (some ⟨w4.heap.size, 0, none⟩), .tuple #[.string (str pa), .string (str pb)], .string (str p), .tuple #[.string (str pa), .string (str pb)], .string (str pa), .string (str pb), .string (str pb), .string (str pq), .agg #[.int .i64 0, .slice va ln vc, .int .i64 ox, .int .i64 oy], .pointer (some ⟨w4.heap.size, 0, none⟩), .int .i64 0, .bool false, undef, x18, x19, x20, x21, x22], defers := [] } ∧ Rr6 W5 w.heap.size w4.heap.size ln vc va ox oy pa v b0 b1 b2 b3 b4 b5 x18 x19 x20 x21 x22) ?step ?done _ _ _ _ (by simp) ?start
      case start =>
        refine ⟨false, false, false, false, false, false, undef, undef, undef, undef, undef, rfl, rfl, ?_⟩
        exact { bel := fun _ => (Below.refl _ _).drew, f0 := fun h => (by cases h), f1 := fun h => (by cases h), f2 := fun h => (by cases h), f3 := fun h => (by cases h), f4 := fun h => (by cases h), o4 := fun h => (by cases h), o43 := fun h => (by cases h), o5 := fun h => (by cases h), f5 := fun h => (by cases h) }
      case done =>
        rintro L a v ⟨b0, b1, b2, b3, b4, b5, x18, x19, x20, x21, x22, rfl, rfl, H⟩ hr
        have hall := ready_all (by kernel_rfl) hr
        obtain rfl : b5 = true := hall 5 (by decide)
        obtain ⟨z, u, e1, hu, hv⟩ := H.f5 rfl
        subst hv
        have hRu := (hu.block w.heap.size HR5.out.2).trans HR5.out.1
        obtain ⟨j0, j1, j2, j3⟩ := four_set hRu (.int .i64 z) (.slice va ln vc) (.int .i64 ox) (.int .i64 oy)
        have HF : Hid (OutRo w (four w.heap.size u (.int .i64 z) (.slice va ln vc) (.int .i64 ox) (.int .i64 oy)) (.returned (.agg #[.int .i64 z, .slice va ln vc, .int .i64 ox, .int .i64 oy])) p) := by
          refine ⟨four_belowR (HBW.out.trans (hu.mono HBW.out.size)) (Nat.le_refl _) _ _ _ _, .inl ⟨⟨z, l, ox, oy⟩, va, vc, ?_, ?_, ?_⟩⟩
          · rw [HRO.out, e1]
          · simp only [← HLN.out]
          · simp only [← HLN.out]
            exact four_rowR (row_on HO5.out hu) (by omega) (by omega) _ _ _ _
        go_wp2
        exact bodyPost_ret (v := .agg #[.int .i64 z, .slice va ln vc, .int .i64 ox, .int .i64 oy]) (by simp [results, Tryz.results71, go_sem, j0, j1, j2, j3]) rfl HF.out
      case step =>
        rintro L a v i ⟨b0, b1, b2, b3, b4, b5, x18, x19, x20, x21, x22, rfl, rfl, H⟩ hi
        have hlt : i < 6 := ready_lt hi
        obtain rfl | rfl | rfl | rfl | rfl | rfl : i = 0 ∨ i = 1 ∨ i = 2 ∨ i = 3 ∨ i = 4 ∨ i = 5 := by omega
        · obtain rfl : b0 = false := ready_new hi
          refine wpOp_run (o := _) rfl (fun K hK => ?_)
          go_simp
          refine hK _ _ ?_
          exact ⟨_, _, _, _, _, _, _, _, _, _, _, rfl, rfl, { H with f0 := fun _ => rfl }⟩
        · obtain rfl : b1 = false := ready_new hi
          obtain rfl : b0 = true := ready_dep (d := 0) hi (by kernel_rfl)
          obtain rfl : b4 = false := Bool.eq_false_iff.2 (fun h => by have := H.o4 h; cases this)
          obtain rfl : b5 = false := Bool.eq_false_iff.2 (fun h => by have := H.o5 h; cases this)
          obtain rfl := H.f0 rfl
          have hW := HN.out v (H.bel rfl)
          cases hr : rnum pa with
          | none =>
            rw [hr] at hW
            refine wpOp_run (o := _) rfl (fun K hK => ?_)
            go_simp
            go_at_call 69
            refine hW.mono ?_
            rintro e v5 ⟨rfl, hb5⟩
            refine ⟨rfl, HBW.out.trans (((H.bel rfl).trans (hb5.mono (H.bel rfl).size)).mono HBW.out.size), .inr ⟨HRO.out.trans (by rw [hr]), rfl⟩⟩
          | some z =>
            rw [hr] at hW
            refine wpOp_run (o := _) rfl (fun K hK => ?_)
            go_simp
            go_at_call 69
            refine hW.mono ?_
            rintro e v5 ⟨rfl, hb5⟩
            show K _ _
            refine hK _ _ ?_
            exact ⟨_, _, _, _, _, _, _, _, _, _, _, rfl, rfl, { H with bel := fun _ => (H.bel rfl).trans (hb5.mono (H.bel rfl).size), f1 := fun _ => ⟨z, hr, rfl⟩, o4 := fun h => (by cases h), f5 := fun h => (by cases h) }⟩
        · obtain rfl : b2 = false := ready_new hi
          refine wpOp_run (o := _) rfl (fun K hK => ?_)
          go_simp
          refine hK _ _ ?_
          exact ⟨_, _, _, _, _, _, _, _, _, _, _, rfl, rfl, { H with f2 := fun _ => rfl }⟩
        · obtain rfl : b3 = false := ready_new hi
          obtain rfl : b2 = true := ready_dep (d := 2) hi (by kernel_rfl)
          obtain rfl : b4 = false := Bool.eq_false_iff.2 (fun h => by have := (H.o43 h); cases this)
          obtain rfl : b5 = false := Bool.eq_false_iff.2 (fun h => by have := H.o5 h; cases this)
          obtain rfl := H.f2 rfl
          obtain ⟨y0, y1, y2, y3, _⟩ := cells4 (((H.bel rfl).block w4.heap.size HX5.out.2).trans HX5.out.1)
          refine wpOp_run (o := _) rfl (fun K hK => ?_)
          go_simp
          refine hK _ _ ?_
          exact ⟨_, _, _, _, _, _, _, _, _, _, _, rfl, rfl, { H with f3 := fun _ => rfl, o43 := fun h => (by cases h) }⟩
        · obtain rfl : b4 = false := ready_new hi
          obtain rfl : b1 = true := ready_dep (d := 1) hi (by kernel_rfl)
          obtain rfl : b3 = true := ready_dep (d := 3) hi (by kernel_rfl)
          obtain rfl : b5 = false := Bool.eq_false_iff.2 (fun h => by have := H.o5 h; cases this)
          obtain ⟨z, e1, q1⟩ := H.f1 rfl
          obtain rfl := H.f3 rfl
          subst q1
          refine wpOp_run (o := _) rfl (fun K hK => ?_)
          go_simp
          refine hK _ _ ?_
          exact ⟨_, _, _, _, _, _, _, _, _, _, _, rfl, rfl, { H with f4 := fun _ => ⟨z, e1, rfl⟩, o4 := fun _ => rfl, o43 := fun _ => rfl, o5 := fun h => by cases h }⟩
        · obtain rfl : b5 = false := ready_new hi
          obtain rfl : b4 = true := ready_dep (d := 4) hi (by kernel_rfl)
          obtain ⟨z, e1, q1⟩ := H.f4 rfl
          subst q1
          have hR := ((H.bel rfl).block w.heap.size HR5.out.2).trans HR5.out.1
          obtain ⟨y0, y1, y2, y3, y4, y5, y6, y7⟩ := cells4 hR
          refine wpOp_run (o := _) rfl (fun K hK => ?_)
          go_simp
          refine hK _ _ ?_
          exact ⟨_, _, _, _, _, _, _, _, _, _, _, rfl, rfl, { H with bel := fun h => (by cases h), o5 := fun _ => rfl, f5 := fun _ => ⟨z, v, e1, H.bel rfl, rfl⟩ }⟩
    · have HRO : Hid (rout p = none) := rout_bad hct (by rw [← hpq, hpr]; exact hz)
      clear hct hpl hpq hpr hln hql
      have hne : (cd == 0) = false := by simpa using hz
      go_enter Tryz.func71, Tryz.ntmps71
      go_wp2_with (first
        | (go_at_call 88; (with_reducible refine hC'.mono ?_); clear hC'; rintro e w2 ⟨rfl, HB2⟩; have HW2 : Hid (Below w.heap.size w w2) := HB1.out.trans (HB2.out.mono (by omega)); have hR := HR.out w2 HW2.out)
        | (go_at_call 77; (with_reducible refine hR.mono ?_); clear hR; rintro e w3 ⟨rfl, HB3⟩; have HW3 : Hid (Below w.heap.size w w3) := HW2.out.trans (HB3.out.mono HW2.out.size); have hP := HPR.out w3 HW3.out)
        | (go_at_call 89; (with_reducible refine hP.mono ?_); clear hP; rintro e w4 ⟨va, vc, rfl, HO4, HB4⟩; have HW4 : Hid (Below w.heap.size w w4) := HW3.out.trans (HB4.out.mono HW3.out.size)))
      exact ⟨rfl, HW4.out.trans ((below_box _).mono HW4.out.size), .inr ⟨HRO.out, rfl⟩⟩

end Go.Proofs.YtciefdphjkjikaaGreatDoor
