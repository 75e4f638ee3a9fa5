/- Some coins of a list, their keys where they were; the specification's l5Spent. -/
import Derived.Test.YtagokfoimokniaaGreatDoorQa
import Derived.Test.YtagokfoimokniaaGreatDoorJn8
import Derived.Lib.QuietBelow
namespace Go.Proofs.YtagokfoimokniaaGreatDoor
open Go.RowKit Go.Maps Go.WideMaps Go.Sort

/-- A row of one's own (from rb on) of coins whose keys lie from lo on, no two in one block. -/
structure SelR (W : World) (rb lo : Nat) (v : Value) (n : Nat) (f : Nat → Co) (kv : Nat → Value) : Prop where
  row : ∃ xs, W.ownsRow rb 54 8 v n xs ∧ ∀ j, j < n → CellsC xs j (f j) (kv j)
  keys : ∀ j, j < n → W.ownsRow lo 2 1 (kv j) (f j).l.length (ints (f j).l)
  apart : ∀ i j, i < j → j < n → ∀ b, (kv i).ownBlock = some b → (kv j).ownBlock ≠ some b
theorem SelR.own {W : World} {rb lo n : Nat} {v : Value} {f : Nat → Co} {kv : Nat → Value} (h : SelR W rb lo v n f kv) (hl : lo ≤ rb) : COwn W lo W.heap.size v n f kv := by
  obtain ⟨xs, h1, h2⟩ := h.row
  exact ⟨⟨xs, Joins.ownsRow_le h1 hl, h2⟩, fun b hb => (h1.lt b hb).2, fun j hj => ⟨h.keys j hj, fun b hb => ((h.keys j hj).lt b hb).2⟩, h.apart⟩
theorem SelR.below {w w' : World} {rb lo n : Nat} {v : Value} {f : Nat → Co} {kv : Nat → Value} (h : SelR w rb lo v n f kv) (hb : Below w.heap.size w w') : SelR w' rb lo v n f kv := by
  obtain ⟨xs, h1, h2⟩ := h.row
  exact ⟨⟨xs, h1.kept (grown_of_below hb) (by cases Value.ownBlock v <;> simp), h2⟩, fun j hj => (h.keys j hj).kept (grown_of_below hb) (by cases Value.ownBlock (kv j) <;> simp), h.apart⟩
theorem SelR.turned {W : World} {rb lo n : Nat} {v : Value} {f f' : Nat → Co} {kv : Nat → Value} (h : SelR W rb lo v n f kv) (hf : ∀ j, j < n → f' j = f j) : SelR W rb lo v n f' kv := by
  obtain ⟨xs, h1, h2⟩ := h.row
  exact ⟨⟨xs, h1, fun j hj => by rw [hf j hj]; exact h2 j hj⟩, fun j hj => by rw [hf j hj]; exact h.keys j hj, h.apart⟩

theorem sel_added {W : World} {rb lo X j : Nat} {v u : Value} {f : Nat → Co} {kv : Nat → Value} {o : Co} (hlr : lo ≤ rb) (h : SelR W rb lo v j f kv) (hX : W.heap[X]? = some (.cells #[.int .i64 o.p, .int .i64 o.q, .int .i64 o.v, u, .int .i64 o.x, .int .i64 o.y, .int .i64 o.h, .bool o.m] 54 (0, 0))) (hu1 : u.oneCell' = true) (hrow : W.ownsRow lo 2 1 u o.l.length (ints o.l)) (hap : ∀ i, i < j → ∀ b, (kv i).ownBlock = some b → u.ownBlock ≠ some b) (hj : j ≤ 1000) (hlo : rb ≤ W.heap.size) (hf : f j = o) :
    ∃ g cap w5, (Builtin.append_ #[28, 28] 28 #[v, .slice (some ⟨X, 0, none⟩) 1 1]).run Tryz.prog W = .ok (.slice (some ⟨g, 0, none⟩) (j + 1) cap) w5 ∧
      SelR w5 rb lo (.slice (some ⟨g, 0, none⟩) (j + 1) cap) (j + 1) f (fun i => if i = j then u else kv i) ∧ W.grownBy w5 v.ownBlock := by
  obtain ⟨i0, hi, hz0, hz1, hz2⟩ := info_parts Tryz.infoCoin
  obtain ⟨xs, hown, hcells⟩ := h.row
  obtain ⟨v', w5, hrun, hown', hgrow, hsome⟩ := run_append_own (P := Tryz.prog) W rb 28 28 54 i0 (.agg #[.int .i64 0, .int .i64 0, .int .i64 0, .slice none 0 0, .int .i64 0, .int .i64 0, .int .i64 0, .bool false]) 8 80 Tryz.underlying28 hi hz0 hz1 hz2 rfl (by decide) v j xs hown ⟨X, 0, none⟩ 1 1 [.int .i64 o.p, .int .i64 o.q, .int .i64 o.v, u, .int .i64 o.x, .int .i64 o.y, .int .i64 o.h, .bool o.m] rfl (World.news_of_block hX) (by
    intro z hz
    simp only [List.mem_cons, List.not_mem_nil, or_false] at hz
    rcases hz with rfl | rfl | rfl | rfl | rfl | rfl | rfl | rfl <;> first | rfl | exact hu1) (by unfold maxLen; omega) (by omega) hlo
  obtain ⟨g, cap, rfl⟩ := ownsRow_succ hown'
  have hxl := hown.1
  have kp : ∀ (z : Value) (d : Nat) (zs : List Value), W.ownsRow lo 2 1 z d zs → w5.ownsRow lo 2 1 z d zs := fun z d zs hz => hz.kept hgrow (by
    cases e : z.ownBlock with
    | none => exact .inl rfl
    | some b => exact .inr fun e2 => rows_apart (by decide) (Joins.ownsRow_le hown hlr) hz b e2.symm e)
  refine ⟨g, cap, w5, hrun, ⟨⟨_, hown', fun i hi => ?_⟩, fun i hi => ?_, fun i k hik hk b hb => ?_⟩, hgrow⟩
  · by_cases e : i = j
    · subst e
      rw [if_pos rfl, hf]
      refine ⟨?_, ?_, ?_, ?_, ?_, ?_, ?_, ?_⟩ <;> (rw [List.getElem?_append_right (by omega), hxl]; simp)
    · obtain ⟨a0, a1, a2, a3, a4, a5, a6, a7⟩ := hcells i (by omega)
      rw [if_neg e]
      refine ⟨?_, ?_, ?_, ?_, ?_, ?_, ?_, ?_⟩
      · rw [List.getElem?_append_left (by omega)]; exact a0
      · rw [List.getElem?_append_left (by omega)]; exact a1
      · rw [List.getElem?_append_left (by omega)]; exact a2
      · rw [List.getElem?_append_left (by omega)]; exact a3
      · rw [List.getElem?_append_left (by omega)]; exact a4
      · rw [List.getElem?_append_left (by omega)]; exact a5
      · rw [List.getElem?_append_left (by omega)]; exact a6
      · rw [List.getElem?_append_left (by omega)]; exact a7
  · show w5.ownsRow lo 2 1 (if i = j then u else kv i) _ _
    by_cases e : i = j
    · rw [if_pos e, e, hf]; exact kp _ _ _ hrow
    · rw [if_neg e]; exact kp _ _ _ (h.keys i (by omega))
  · change (if i = j then u else kv i).ownBlock = some b at hb
    show (if k = j then u else kv k).ownBlock ≠ some b
    rw [if_neg (by omega)] at hb
    by_cases e : k = j
    · rw [if_pos e]; exact hap i (by omega) b hb
    · rw [if_neg e]; exact h.apart i k hik (by omega) b hb

/-- Of the first j coins those that are wanted. -/
def SelM (W : World) (rb lo : Nat) (v : Value) (cs : List Co) (kv : Nat → Value) (p : Co → Bool) (j : Nat) : Prop :=
  ∃ kv', SelR W rb lo v ((cs.take j).filter p).length (fun t => ((cs.take j).filter p).getD t C0) kv' ∧ ∀ t, t < ((cs.take j).filter p).length → ∃ i, i < j ∧ kv' t = kv i
theorem SelM.below {w w' : World} {rb lo j : Nat} {v : Value} {cs : List Co} {kv : Nat → Value} {p : Co → Bool} (h : SelM w rb lo v cs kv p j) (hb : Below w.heap.size w w') : SelM w' rb lo v cs kv p j := by
  obtain ⟨kv', h1, h2⟩ := h
  exact ⟨kv', h1.below hb, h2⟩
theorem SelM.start {W : World} {rb lo X : Nat} {cs : List Co} {kv : Nat → Value} {p : Co → Bool} (hX : W.heap[X]? = some (.cells #[] 54 (0, 0))) (hr : rb ≤ X) : SelM W rb lo (.slice (some ⟨X, 0, none⟩) 0 0) cs kv p 0 :=
  ⟨fun _ => .slice none 0 0, ⟨⟨[], own_empty hX hr, fun j hj => (by simp at hj)⟩, fun j hj => (by simp at hj), fun i j _ hj => (by simp at hj)⟩, fun t ht => (by simp at ht)⟩
theorem take_oneC {cs : List Co} {n j : Nat} {o : Co} (hn : cs.length = n) (hlt : j < n) (ho : o = cs.getD j C0) : cs.take (j + 1) = cs.take j ++ [o] := by
  rw [List.take_add_one, ho, List.getD, List.getElem?_eq_getElem (by omega)]; rfl
theorem filt_yesC {cs : List Co} {n j : Nat} {o : Co} {p : Co → Bool} (hn : cs.length = n) (hlt : j < n) (ho : o = cs.getD j C0) (hp : p o = true) : (cs.take (j + 1)).filter p = (cs.take j).filter p ++ [o] := by
  rw [take_oneC hn hlt ho, List.filter_append]; simp [hp]
theorem filt_noC {cs : List Co} {n j : Nat} {o : Co} {p : Co → Bool} (hn : cs.length = n) (hlt : j < n) (ho : o = cs.getD j C0) (hp : p o = false) : (cs.take (j + 1)).filter p = (cs.take j).filter p := by
  rw [take_oneC hn hlt ho, List.filter_append]; simp [hp]
theorem SelM.skip {W : World} {rb lo n j : Nat} {v : Value} {cs : List Co} {kv : Nat → Value} {p : Co → Bool} {o : Co} (h : SelM W rb lo v cs kv p j) (hn : cs.length = n) (hlt : j < n) (ho : o = cs.getD j C0) (hp : p o = false) : SelM W rb lo v cs kv p (j + 1) := by
  obtain ⟨kv', h1, h2⟩ := h
  unfold SelM
  rw [filt_noC hn hlt ho hp]
  exact ⟨kv', h1, fun t ht => by obtain ⟨i, hi, e⟩ := h2 t ht; exact ⟨i, by omega, e⟩⟩
theorem SelM.add {W : World} {rb lo n j : Nat} {v : Value} {cs : List Co} {kv : Nat → Value} {p : Co → Bool} {o : Co} {u : Value} (h : SelM W rb lo v cs kv p j) (hlr : lo ≤ rb) (hn : cs.length = n) (hn2 : n ≤ 1000) (hlt : j < n) (ho : o = cs.getD j C0) (hp : p o = true) (hu : kv j = u) (hu1 : u.oneCell' = true) (hrow : W.ownsRow lo 2 1 u o.l.length (ints o.l)) (hap : ∀ i, i < j → ∀ b, (kv i).ownBlock = some b → (kv j).ownBlock ≠ some b) (hrb : rb ≤ W.heap.size) :
    ∃ g cap w5, (Builtin.append_ #[28, 28] 28 #[v, .slice (some ⟨W.heap.size, 0, none⟩) 1 1]).run Tryz.prog (W.alloc (.cells #[.int .i64 o.p, .int .i64 o.q, .int .i64 o.v, u, .int .i64 o.x, .int .i64 o.y, .int .i64 o.h, .bool o.m] 54)) = .ok (.slice (some ⟨g, 0, none⟩) (((cs.take j).filter p).length + 1) cap) w5 ∧
      Hid (SelM w5 rb lo (.slice (some ⟨g, 0, none⟩) (((cs.take j).filter p).length + 1) cap) cs kv p (j + 1) ∧ ((cs.take (j + 1)).filter p).length = ((cs.take j).filter p).length + 1 ∧ Below rb W w5) := by
  obtain ⟨kv', h1, h2⟩ := h
  obtain ⟨L, hL⟩ : ∃ L, L = (cs.take j).filter p := ⟨_, rfl⟩
  have hlen : L.length ≤ 1000 := by
    rw [hL]
    refine Nat.le_trans (List.length_filter_le _ _) ?_
    rw [List.length_take]
    omega
  have e5 := filt_yesC hn hlt ho hp
  rw [← hL] at h1 h2 e5 ⊢
  have hbx : Below W.heap.size W (W.alloc (.cells #[.int .i64 o.p, .int .i64 o.q, .int .i64 o.v, u, .int .i64 o.x, .int .i64 o.y, .int .i64 o.h, .bool o.m] 54)) := below_box _
  obtain ⟨xs, hrowv, _⟩ := h1.row
  have h3 := (h1.below hbx).turned (f' := fun t => (L ++ [o]).getD t C0) (fun t ht => by simp only [List.getD]; rw [List.getElem?_append_left ht])
  obtain ⟨g, cap, w5, r1, r2, r3⟩ := sel_added hlr h3 (heap_alloc_new W _) hu1 (hrow.alloc _) (fun i hi b hb => by
    obtain ⟨t, ht, e⟩ := h2 i hi
    rw [e] at hb
    rw [← hu]
    exact hap t ht b hb) hlen (by simp; omega) (by simp only [List.getD]; rw [List.getElem?_append_right (Nat.le_refl _)]; simp)
  refine ⟨g, cap, w5, r1, ⟨_, by rw [e5, List.length_append]; exact r2, fun t ht => ?_⟩, by rw [e5, List.length_append]; rfl, (hbx.mono hrb).grown r3 (by simp; omega) (fun k hk => (hrowv.lt k hk).1)⟩
  rw [e5, List.length_append] at ht
  show ∃ i, i < j + 1 ∧ (if t = L.length then u else kv' t) = kv i
  by_cases e : t = L.length
  · exact ⟨j, by omega, by rw [if_pos e]; exact hu.symm⟩
  · obtain ⟨i, hi, e2⟩ := h2 t (by simp at ht; omega)
    exact ⟨i, by omega, by rw [if_neg e]; exact e2⟩

def SpentO (w w' : World) (e : Ending) (cs : List Co) (rs : List (Int × Int)) : Prop :=
  ∃ va vc kv, e = .returned (.tuple #[.slice va (inC cs rs).length vc, .bool (decide ((inC cs rs).length = rs.length))]) ∧ COwn w' w.heap.size w'.heap.size (.slice va (inC cs rs).length vc) (inC cs rs).length (fun j => (inC cs rs).getD j C0) kv ∧ Below w.heap.size w w'
theorem own_slice4 {w : World} {lo hi n : Nat} {v : Value} {f : Nat → Co} {kv : Nat → Value} (h : COwn w lo hi v n f kv) : ∃ a c, v = .slice a n c := by
  obtain ⟨xs, h1, _⟩ := h.row
  rcases h1.2 with ⟨rfl, rfl⟩ | ⟨g, cap, cur, rfl, _⟩
  · exact ⟨none, 0, rfl⟩
  · exact ⟨_, cap, rfl⟩
theorem get_memC {ts : List Co} {m j : Nat} (hl : ts.length = m) (hj : j < m) : ts.getD j C0 ∈ ts := by
  rw [List.getD, List.getElem?_eq_getElem (by omega)]; exact List.getElem_mem _

set_option maxRecDepth 20000 in
set_option maxHeartbeats 4000000 in
theorem l5Spent_any (n c P nr cr lo hi : Nat) (a ia : Option Addr) (cs : List Co) (kv : Nat → Value) (rs : List (Int × Int)) (w : World) (hl : cs.length = n) (hn : n ≤ 40) (hok : ∀ c ∈ cs, coinR c = 0) (hO : COwn w lo hi (.slice a n c) n (fun j => cs.getD j C0) kv) (hlo : lo ≤ w.heap.size) (hnr : nr ≤ 1048576) (hG : GAt w ia nr rs) (hPl : P < w.heap.size) (hP : w.cell? ⟨P, 2, none⟩ = some (.slice ia nr cr)) :
    Calls Tryz.prog 68 #[.slice a n c, .pointer (some ⟨P, 0, none⟩)] w fun e w' => SpentO w w' e cs rs := by
  have hmix : Tryz.prog.follows .mixedOrders = true := by kernel_rfl
  have HL : Hid (cs.length = n) := hl
  have HOK : Hid (∀ c ∈ cs, coinR c = 0) := hok
  have HO : Hid (COwn w lo hi (.slice a n c) n (fun j => cs.getD j C0) kv) := hO
  have HG : Hid (GAt w ia nr rs) := hG
  have HE : Hid ((w.alloc (.cells #[] 54)).heap[w.heap.size]? = some (.cells #[] 54 (0, 0))) := heap_alloc_new _ _
  obtain ⟨pd, hpd⟩ : ∃ p : Co → Bool, p = fun c => memB rs (c.p, c.q) := ⟨_, rfl⟩
  have HPD : Hid (pd = fun c => memB rs (c.p, c.q)) := hpd
  have HP : Hid (w.cell? ⟨P, 2, none⟩ = some (.slice ia nr cr)) := hP
  clear hl hok hO hG hpd hP
  go_enter Tryz.func68, Tryz.ntmps68
  go_wp2
  go_loopw [6, 7] (fun v i wr => ∃ (j m g uc : Nat), j ≤ n ∧ i = .int .i64 j ∧ v = .slice (some ⟨g, 0, none⟩) m uc ∧ Hid (m = ((cs.take j).filter pd).length) ∧ Hid (SelM wr w.heap.size lo (.slice (some ⟨g, 0, none⟩) m uc) cs kv pd j) ∧ Below w.heap.size w wr) (fun _ i _ => n - (intOf i).toNat)
  case atStart => exact ⟨0, 0, w.heap.size, 0, Nat.zero_le _, rfl, rfl, rfl, SelM.start HE.out (Nat.le_refl _), below_box _⟩
  case round =>
    obtain ⟨j, m, g, uc, hj, rfl, rfl, HM, HS, hbel⟩ := hrel
    have q2 := (hbel.cell (p := ⟨P, 2, none⟩) hPl).trans HP.out
    by_cases hlt : j < n
    · have hOr := HO.out.below hbel
      obtain ⟨ga, ug, eg⟩ : ∃ g ug, (Value.slice a n c) = .slice (some ⟨g, 0, none⟩) n ug := by
        obtain ⟨xs, h1, _⟩ := hOr.row
        rcases h1.2 with ⟨e1, e2⟩ | ⟨g, cp, cur, e1, _⟩
        · omega
        · exact ⟨g, cp, e1⟩
      cases eg
      obtain ⟨o, ho⟩ : ∃ o, o = cs.getD j C0 := ⟨_, rfl⟩
      obtain ⟨ka, kn, kc, hkv⟩ : ∃ a n c, kv j = .slice a n c := by
        rcases (hOr.keys j hlt).1.2 with ⟨e1, _⟩ | ⟨g, cp, cur, e1, _⟩
        · exact ⟨none, 0, 0, e1⟩
        · exact ⟨_, _, _, e1⟩
      obtain ⟨⟨x0, x1, x2, x3, x4, x5, x6, x7⟩, _⟩ := hOr.cells hlt (show cs.getD j C0 = o from ho.symm) hkv
      have hrow := (hOr.keys j hlt).1
      have HAP : Hid (∀ i, i < j → ∀ b, (kv i).ownBlock = some b → (kv j).ownBlock ≠ some b) := fun i hi b hb => hOr.apart i j hi hlt b hb
      have hrow2 : wr.ownsRow lo 2 1 (.slice ka kn kc) o.l.length (ints o.l) := by rw [← hkv, ho]; exact hrow
      have HRW : Hid (wr.ownsRow lo 2 1 (.slice ka kn kc) o.l.length (ints o.l)) := hrow2
      have HKV : Hid (kv j = .slice ka kn kc) := hkv
      have HO1 : Hid (o = cs.getD j C0) := ho
      obtain ⟨mb, hmb⟩ : ∃ b, b = pd o := ⟨_, rfl⟩
      have HMB : Hid (mb = pd o) := hmb
      obtain ⟨op, oq, ov, ol, ox, oy, oh, om⟩ := o
      simp only at x0 x1 x2 x3 x4 x5 x6 x7
      have hgl : ga < wr.heap.size := block_lt_of_cell x0
      have y0 := cell_regrown x0
      have y1 := cell_regrown x1
      have y2 := cell_regrown q2
      have cA : ∀ dd os, Calls Tryz.prog 65 #[.slice ia nr cr, .agg #[.int .i64 op, .int .i64 oq]] (grow (redrawn wr dd) os) fun e w'' => e = .returned (.bool mb) ∧ ∃ p : Regrown, w'' = grow (redrawn wr p.d) p.os := fun dd os => Calls.regrown_of (by
        have := l3Among_any ia nr cr rs op oq (grow (redrawn wr dd) os) (by unfold maxLen; omega) ((HG.out.below hbel (Nat.le_refl _)).below (below_regrown wr dd os) (Nat.le_refl _))
        rw [HMB.out, HPD.out]
        exact this)
      have hki : (j : Int) < (n : Int) := by omega
      clear ho hkv hrow hrow2 hmb hOr
      cases mb
      · go_wp2_with fail
        refine wp_region_quiet_below hmix (by kernel_rfl) ?_
        repeat (go_big_quiet_step (first | exact cA _ _))
        refine wpQuiet_nil ?_
        intro V hw'
        have hbV : Below wr.heap.size wr V := by obtain ⟨⟨dq, osq⟩, hw''⟩ := hw'; rw [hw'']; exact below_regrown wr dq osq
        clear hw'
        go_wp2
        go_roundw
        case rel => exact ⟨j + 1, m, g, uc, by omega, by go_num, rfl, by show _ = _; rw [filt_noC HL.out hlt HO1.out HMB.out.symm]; exact HM.out, (HS.out.below hbV).skip HL.out hlt HO1.out HMB.out.symm, hbel.trans (hbV.mono hbel.size)⟩
        case measure => simp [intOf]; omega
      · go_wp2_with fail
        refine wp_region_quiet_below hmix (by kernel_rfl) ?_
        repeat (go_big_quiet_step (first | exact cA _ _))
        refine wpQuiet_nil ?_
        intro V hw'
        have hbV : Below wr.heap.size wr V := by obtain ⟨⟨dq, osq⟩, hw''⟩ := hw'; rw [hw'']; exact below_regrown wr dq osq
        clear hw' y0 y1 y2
        have z0 := (hbV.cell (p := ⟨ga, j * 8, none⟩) hgl).trans x0
        have z1 := (hbV.cell (p := ⟨ga, j * 8 + 1, none⟩) hgl).trans x1
        have z2 := (hbV.cell (p := ⟨ga, j * 8 + 2, none⟩) hgl).trans x2
        have z3 := (hbV.cell (p := ⟨ga, j * 8 + 3, none⟩) hgl).trans x3
        have z4 := (hbV.cell (p := ⟨ga, j * 8 + 4, none⟩) hgl).trans x4
        have z5 := (hbV.cell (p := ⟨ga, j * 8 + 5, none⟩) hgl).trans x5
        have z6 := (hbV.cell (p := ⟨ga, j * 8 + 6, none⟩) hgl).trans x6
        have z7 := (hbV.cell (p := ⟨ga, j * 8 + 7, none⟩) hgl).trans x7
        have HBV : Hid (Below w.heap.size w V) := hbel.trans (hbV.mono hbel.size)
        obtain ⟨g5, c5, w5, hrun, H5⟩ := (HS.out.below hbV).add hlo HL.out (by omega) hlt HO1.out HMB.out.symm HKV.out rfl (HRW.out.kept (grown_of_below hbV) (by cases Value.ownBlock (.slice ka kn kc) <;> simp)) HAP.out HBV.out.size
        rw [← HM.out] at hrun H5
        clear x0 x1 x2 x3 x4 x5 x6 x7 hbV
        go_wp2_with (first | (at_builtin; go_must (refine wpList_append_runC (by rfl) _ _ _ (by rfl) (by rfl) (by rfl) hrun ?_); clear hrun))
        go_roundw
        case rel => exact ⟨j + 1, m + 1, g5, c5, by omega, by go_num, rfl, H5.out.2.1.symm, H5.out.1, HBV.out.trans H5.out.2.2⟩
        case measure => simp [intOf]; omega
    · have hjn : cs.take j = cs := List.take_of_length_le (by rw [HL.out]; omega)
      have hin : (cs.take j).filter pd = inC cs rs := by rw [hjn, HPD.out]; rfl
      obtain ⟨ts, hts⟩ : ∃ t, t = inC cs rs := ⟨_, rfl⟩
      have hm : m = ts.length := by rw [HM.out, hin, hts]
      have htk : ∀ t, t < m → coinR (ts.getD t C0) = 0 := fun t ht => by
        have := get_memC (ts := ts) rfl (by omega : t < ts.length)
        rw [hts] at this ⊢
        exact HOK.out _ (List.mem_filter.1 this).1
      have hCA : CAt wr (some ⟨g, 0, none⟩) m ts := by
        obtain ⟨kv', h1, _⟩ := HS.out
        rw [hin, ← hts, ← hm] at h1
        refine own_at2 (h1.own hlo) hm.symm fun t ht => ?_
        have := (coin_more (htk t ht)).2.2.2
        omega
      have hmn : m ≤ 40 := by
        rw [hm, hts]
        have := List.length_filter_le (fun c : Co => memB rs (c.p, c.q)) cs
        have := HL.out
        unfold inC
        omega
      have hcp : Calls Tryz.prog 119 #[.slice (some ⟨g, 0, none⟩) m uc] wr.drew fun e w' => ∃ v, e = .returned v ∧ Hid (∃ kv, COwn w' wr.heap.size w'.heap.size v m (fun j => ts.getD j C0) kv) ∧ Below wr.heap.size wr w' :=
        (l4Copy_any m uc (some ⟨g, 0, none⟩) ts wr.drew (by omega) htk (hCA.below (Below.refl _ _).drew (Nat.le_refl _))).mono fun e w' ⟨v, kv, h1, h2, h3⟩ => ⟨v, h1, ⟨kv, by simpa using h2⟩, (Below.refl _ _).drew.trans h3⟩
      obtain ⟨tb, htb⟩ : ∃ b, b = decide (m = nr) := ⟨_, rfl⟩
      have hbe : ((m : Int) == (nr : Int)) = tb := by
        rw [htb]
        by_cases e : m = nr
        · rw [decide_eq_true e, e]; simp
        · rw [decide_eq_false e]; simpa using fun h => e (by omega)
      have HTB : Hid (tb = decide ((inC cs rs).length = rs.length)) := by show _ = _; rw [htb, hm, hts, HG.out.1]
      have HTS : Hid (ts = inC cs rs ∧ m = ts.length) := ⟨hts, hm⟩
      have HBE : Hid (Below w.heap.size w wr) := hbel
      have hPw : P < wr.heap.size := Nat.lt_of_lt_of_le hPl hbel.size
      have hki : ¬ (j : Int) < (n : Int) := by omega
      have hmI : ¬ 9223372036854775807 < m := by omega
      clear hjn hin hts hm htk hCA htb HS HM
      go_wp2
      go_region_held3 (fun w' => w'.cell? ⟨P, 2, none⟩ = some (.slice ia nr cr)) (go_keep)
        (first | (go_at_call 119; (with_reducible refine hcp.mono ?_); rintro e w7 ⟨v7, rfl, HO7, hb7⟩; have y2 := (hb7.cell (p := ⟨P, 2, none⟩) hPw).trans q2))
      go_wp2
      refine bodyPost_ret (v := .tuple #[v7, .bool tb]) (by simp [results, Tryz.results68, go_sem]) rfl ?_
      obtain ⟨kv7, hO7⟩ := HO7.out
      obtain ⟨va, vc, hv⟩ := own_slice4 hO7
      subst hv
      rw [HTB.out, HTS.out.2, HTS.out.1]
      rw [HTS.out.2, HTS.out.1] at hO7
      exact ⟨va, vc, kv7, rfl, by
        obtain ⟨xs, h1, h2⟩ := hO7.row
        exact ⟨⟨xs, Joins.ownsRow_le h1 HBE.out.size, h2⟩, hO7.top, fun j hj => ⟨Joins.ownsRow_le (hO7.keys j hj).1 HBE.out.size, (hO7.keys j hj).2⟩, hO7.apart⟩, HBE.out.trans (hb7.mono HBE.out.size)⟩

end Go.Proofs.YtagokfoimokniaaGreatDoor
