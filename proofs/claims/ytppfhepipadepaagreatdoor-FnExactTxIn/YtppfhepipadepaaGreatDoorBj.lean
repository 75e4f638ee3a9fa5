/- What the specification's l3Parse shares: how it starts, what it leaves, its last region. -/
import Derived.Test.YtppfhepipadepaaGreatDoorBi
import Derived.Test.YtppfhepipadepaaGreatDoorBh
import Derived.Test.YtppfhepipadepaaGreatDoorRv
namespace Go.Proofs.YtppfhepipadepaaGreatDoor
open Go.RowKit Go.Shelf Go.Maps Go.WideMaps

/-- What l3Parse leaves. -/
def OutSp (w w' : World) (e : Ending) (t : List UInt8) : Prop := Below w.heap.size w w' ∧ ((∃ x g0 c0 g1 c1 lo mid hi kv, parT t = some x ∧ e = .returned (.tuple #[.agg #[.int .i64 x.k, .int .i64 x.f, .slice (some ⟨g0, 0, none⟩) x.rs.length c0, .slice (some ⟨g1, 0, none⟩) x.os.length c1], .bool true]) ∧ TOwn w' lo mid hi x.rs.length x.os.length g0 c0 g1 c1 x.rs x.os kv ∧ w.heap.size ≤ lo ∧ hi ≤ w'.heap.size) ∨ (parT t = none ∧ ∃ (k f : Int) (ia : Option Addr) (n ic : Nat) (oa : Option Addr) (m oc : Nat), e = .returned (.tuple #[.agg #[.int .i64 k, .int .i64 f, .slice ia n ic, .slice oa m oc], .bool false])))
theorem cut_start (t : List UInt8) (w : World) (ht : t.length ≤ 1048576) : Calls Tryz.prog 49 #[.string (str t), .int .u8 32] (w.alloc (.cells #[.int .i64 0, .int .i64 0, .slice none 0 0, .slice none 0 0] 30)) fun e w' => ∃ g vc, e = .returned (.slice (some ⟨g, 0, none⟩) (cutL 32 t).length vc) ∧ Hid (w'.ownsRow (w.heap.size + 1) 9 1 (.slice (some ⟨g, 0, none⟩) (cutL 32 t).length vc) (cutL 32 t).length (texts (cutL 32 t))) ∧ Hid (Below (w.heap.size + 1) (w.alloc (.cells #[.int .i64 0, .int .i64 0, .slice none 0 0, .slice none 0 0] 30)) w') := by
  have hs1 : (w.alloc (.cells #[.int .i64 0, .int .i64 0, .slice none 0 0, .slice none 0 0] 30)).heap.size = w.heap.size + 1 := by simp
  refine (l2Cut_any t 32 (w.alloc (.cells #[.int .i64 0, .int .i64 0, .slice none 0 0, .slice none 0 0] 30)) ht).mono fun e w' ⟨va, vc, e1, hO, hb⟩ => ?_
  obtain ⟨g, rfl⟩ := row_some hO (by have := List.length_pos_iff.2 (cutL_ne 32 t); omega)
  rw [hs1] at hO hb
  exact ⟨g, vc, e1, hO, hb⟩
theorem sl_start {w u : World} {g vc N : Nat} {ws : List (List UInt8)} (k f : Int) (hN : ws.length = N) (h1 : u.ownsRow (w.heap.size + 1) 9 1 (.slice (some ⟨g, 0, none⟩) N vc) N (texts ws)) (h2 : Below (w.heap.size + 1) (w.alloc (.cells #[.int .i64 0, .int .i64 0, .slice none 0 0, .slice none 0 0] 30)) u) : Sl w (u.alloc (.cells #[.int .i64 k, .int .i64 f, .slice none 0 0, .slice none 0 0] 30)) g ws u.heap.size (u.heap.size + 1) k f none 0 0 [] none 0 0 none 0 0 [] (fun _ => .slice none 0 0) := by
  have hb : Below u.heap.size u (u.alloc (.cells #[.int .i64 k, .int .i64 f, .slice none 0 0, .slice none 0 0] 30)) := below_box _
  have hg := h1.lt g rfl
  have hsz := h2.size
  have hbw : Below w.heap.size w u := (below_box _).trans (h2.mono (by omega))
  have hR : u.heap[w.heap.size]? = some (.cells #[.int .i64 0, .int .i64 0, .slice none 0 0, .slice none 0 0] 30 (0, 0)) := (h2.block w.heap.size (by omega)).trans (heap_alloc_new _ _)
  simp at hsz
  exact ⟨fun i hi => (hb.cell (p := ⟨g, i, none⟩) hg.2).trans (row_at h1 hN (by omega)), heap_alloc_new _ _, (keepb hR hb).out, World.ownsRow_nil _ _ _ _, fun b hb => by simp [Value.ownBlock] at hb, OOwn.none, hbw.trans (hb.mono hbw.size), by simp; omega⟩
theorem smem_short {ws : List (List UInt8)} {N : Nat} {k : Int} (hN : ws.length = N) (h : N < 2) : smem k (ws.drop 1) = none := by
  rw [List.drop_of_length_le (by omega)]; rfl
theorem smem_at {ws : List (List UInt8)} {N : Nat} {k : Int} (hN : ws.length = N) (h : 1 < N) : smem k (ws.drop 1) = if (numR (ws.getD 1 []) 3).2 = true then srest k (numR (ws.getD 1 []) 3).1 (ws.drop 2) else none := by
  have h1 : 1 < ws.length := by omega
  have e : ws.drop 1 = ws.getD 1 [] :: ws.drop 2 := by
    rw [List.drop_eq_getElem_cons h1, List.getD, List.getElem?_eq_getElem h1]; rfl
  rw [e]
  rfl
theorem srest_short {k f : Int} {l : List (List UInt8)} (h : l.length < 2) : srest k f l = none := by
  match l, h with
  | [], _ => rfl
  | [a], _ => rfl
theorem srest_at {ws : List (List UInt8)} {N j : Nat} {k f : Int} (hN : ws.length = N) (h : j + 1 < N) : srest k f (ws.drop j) = (match mapO sref (cutL 43 (ws.getD j [])), mapO sout (ws.drop (j + 1)) with
    | some rs, some os => some ⟨k, f, rs, os⟩
    | _, _ => none) := by
  have h0 : j < ws.length := by omega
  have h1 : j + 1 < ws.length := by omega
  have e : ws.drop j = ws.getD j [] :: ws.drop (j + 1) := by
    rw [List.drop_eq_getElem_cons h0, List.getD, List.getElem?_eq_getElem h0]; rfl
  have e2 : ws.drop (j + 1) = ws.getD (j + 1) [] :: ws.drop (j + 1 + 1) := by
    rw [List.drop_eq_getElem_cons h1, List.getD, List.getElem?_eq_getElem h1]; rfl
  rw [e, e2, srest]
  cases mapO sref (cutL 43 (ws.getD j [])) <;> cases mapO sout (ws.getD (j + 1) [] :: ws.drop (j + 1 + 1)) <;> rfl
theorem outs_atS {ws : List (List UInt8)} {j0 m i : Nat} {os : List Ou} {q : Ou} (h : ((ws.drop j0).take m).map sout = os.map some) (hi : i = j0 + m) (hl : i < ws.length) (hq : sout (ws.getD i []) = some q) : ((ws.drop j0).take (m + 1)).map sout = (os ++ [q]).map some := by
  subst hi
  have e : (ws.drop j0)[m]? = some (ws.getD (j0 + m) []) := by
    rw [List.getElem?_drop, List.getD, List.getElem?_eq_getElem hl]; rfl
  rw [List.take_add_one, e, List.map_append, h, List.map_append]
  show _ ++ [sout (ws.getD (j0 + m) [])] = _
  rw [hq]
  rfl
theorem outs_lenS {ws : List (List UInt8)} {j0 m : Nat} {os : List Ou} (h : ((ws.drop j0).take m).map sout = os.map some) (hl : j0 + m ≤ ws.length) : os.length = m := by
  have := congrArg List.length h
  simp at this
  omega
/-- What the last region reads of the frame. -/
structure Lk (a : Act) (t : List UInt8) (R T : Nat) : Prop where
  hd : a.defers = []
  hs : a.tmps.size = 136
  h0 : a.tmps[0]? = some (.string (str t))
  h2 : a.tmps[2]? = some (.pointer (some ⟨R, 0, none⟩))
  h5 : a.tmps[5]? = some (.pointer (some ⟨T, 0, none⟩))
  h10 : a.tmps[10]? = some (.bool true)
theorem lk_at {a : Act} {d : Nat} (v : Value) (h : d < a.tmps.size) : (a.put (some d) v).tmps[d]? = some v := by
  show (a.tmps.setIfInBounds d v)[d]? = some v
  rw [Array.getElem?_setIfInBounds_self]
  simp [h]
theorem lk_ne {a : Act} {d j : Nat} (v : Value) (_o : Option Value) (h : j ≠ d) : (a.put (some d) v).tmps[j]? = a.tmps[j]? := by
  show (a.tmps.setIfInBounds d v)[j]? = a.tmps[j]?
  exact Array.getElem?_setIfInBounds_ne (Ne.symm h)
theorem nx {a : Act} {d j : Nat} {v u : Value} {b : Bool} (h : b = true → a.tmps[j]? = some u) (hne : j ≠ d := by decide) : b = true → (a.put (some d) v).tmps[j]? = some u := fun hb => (lk_ne v none hne).trans (h hb)
theorem la {a : Act} {t : List UInt8} {R T d : Nat} {v : Value} {b : Bool} (H : Lk a t R T) (h : d < 136 := by decide) : b = true → (a.put (some d) v).tmps[d]? = some v := fun _ => lk_at v (by rw [H.hs]; exact h)
theorem Lk.put {a : Act} {t : List UInt8} {R T : Nat} (H : Lk a t R T) (d : Nat) {v : Value} (h : decide (d ≠ 0 ∧ d ≠ 2 ∧ d ≠ 5 ∧ d ≠ 10) = true) : Lk (a.put (some d) v) t R T := by
  have h' := of_decide_eq_true h
  exact ⟨H.hd, by show (a.tmps.setIfInBounds d v).size = 136; simp [H.hs], (lk_ne v none (Ne.symm h'.1)).trans H.h0, (lk_ne v none (Ne.symm h'.2.1)).trans H.h2, (lk_ne v none (Ne.symm h'.2.2.1)).trans H.h5, (lk_ne v none (Ne.symm h'.2.2.2)).trans H.h10⟩
theorem cells4c {v : World} {b : Nat} {c0 c1 c2 c3 : Value} {t : TypeId} (h : v.heap[b]? = some (.cells #[c0, c1, c2, c3] t (0, 0))) : v.cell? ⟨b, 0, none⟩ = some c0 ∧ v.cell? ⟨b, 1, none⟩ = some c1 ∧ v.cell? ⟨b, 2, none⟩ = some c2 ∧ v.cell? ⟨b, 3, none⟩ = some c3 := by
  obtain ⟨p0, p1, p2, p3, _⟩ := cells4 h
  exact ⟨p0, p1, p2, p3⟩
/-- An out more, in the specification's reading. -/
theorem out_step {w v u3 : World} {g T mid n ic m oc : Nat} {ws : List (List UInt8)} {k f : Int} {ia oa : Option Addr} {rs : List (Int × Int)} {os : List Ou} {kv : Nat → Value} {q : Ou} {va : Option Addr} {ln vk X : Nat} (H : Sl w v g ws T mid k f ia n ic rs oa m oc oa m oc os kv) (hol : os.length = m) (hln : q.l.length = ln)
    (hO : v.ownsRow u3.heap.size 2 1 (.slice va ln vk) ln (ints q.l)) (H3 : Sl w u3 g ws T mid k f ia n ic rs oa m oc oa m oc os kv) (hX : v.heap[X]? = some (.cells #[.int .i64 q.v, .slice va ln vk, .int .i64 q.x, .int .i64 q.y] 100 (0, 0))) (hm : m ≤ 1100000) :
    ∃ g6 c6 w6, (Builtin.append_ #[28, 28] 28 #[.slice oa m oc, .slice (some ⟨X, 0, none⟩) 1 1]).run Tryz.prog v = .ok (.slice (some ⟨g6, 0, none⟩) (m + 1) c6) w6 ∧ Hid (Sl w w6 g ws T mid k f ia n ic rs oa m oc (some ⟨g6, 0, none⟩) (m + 1) c6 (os ++ [q]) (fun i => if i = m then .slice va ln vk else kv i)) := by
  subst hln
  have hext : OOwn v mid v.heap.size (.slice oa m oc) m (fun z => (os ++ [q]).getD z O0) kv := H.out.ext fun z hz => by
    show os.getD z O0 = (os ++ [q]).getD z O0
    rw [List.getD, List.getD, List.getElem?_append_left (by rw [hol]; exact hz)]
  obtain ⟨g', cap, v6, hrun, HA⟩ := out_added (o := q) (u := .slice va q.l.length vk) hext hX rfl (Joins.ownsRow_le hO H3.ord.2.2.2) (fun z hz b hb e => by have h1 := (H3.out.keys z hz).2 b hb; have h2 := (hO.lt b e).1; omega) hm H.ord.2.2.2 (by show (os ++ [q]).getD m O0 = q; rw [List.getD, List.getElem?_append_right (by rw [hol]; exact Nat.le_refl _), hol]; simp)
  have hbm : Below mid v v6 := (Below.refl _ _).grown HA.out.2 H.ord.2.2.2 (fun b hb => by obtain ⟨zs, h1, _⟩ := H.out.row; exact (h1.lt b hb).1)
  exact ⟨g', cap, v6, hrun, H.app hbm HA.out.1⟩
/-- What holds in the midst of the last region. -/
structure RlB (W : World) (R : Nat) (k f : Int) (ia : Option Addr) (n ic : Nat) (oa : Option Addr) (m oc : Nat) (t tx : List UInt8) (cf : Int) (v : World) (a : Act) (b0 b1 b2 b3 b4 b5 b6 b7 b8 b9 b10 b11 b12 b13 b14 b15 b16 b17 : Bool) : Prop where
  bel : b16 = false → Below W.heap.size W v
  f0 : b0 = true → a.tmps[120]? = some (.agg #[.int .i64 k, .int .i64 f, .slice ia n ic, .slice oa m oc])
  f1 : b1 = true → a.tmps[121]? = some (.bool true)
  f2 : b2 = true → a.tmps[122]? = some (.bool true)
  f3 : b3 = true → a.tmps[123]? = some (.int .i64 cf)
  f4 : b4 = true → a.tmps[124]? = some (.bool false)
  f5 : b5 = true → a.tmps[125]? = some (.bool false)
  f6 : b6 = true → a.tmps[126]? = some (.bool false)
  f7 : b7 = true → a.tmps[127]? = some (undef)
  f8 : b8 = true → a.tmps[128]? = some (undef)
  f9 : b9 = true → a.tmps[129]? = some (undef)
  f10 : b10 = true → a.tmps[130]? = some (.bool false)
  f11 : b11 = true → a.tmps[131]? = some (.bool false)
  f12 : b12 = true → a.tmps[132]? = some (undef)
  f13 : b13 = true → a.tmps[133]? = some (undef)
  f14 : b14 = true → a.tmps[134]? = some (undef)
  f15 : b15 = true → a.tmps[135]? = some (.bool false)
  f16 : b16 = true → ∃ u, Below W.heap.size W u ∧ v = four R u (.int .i64 k) (.int .i64 f) (.slice ia n ic) (.slice oa m oc)
  f17 : b17 = true → a.tmps[3]? = some (.bool false)
  o2_1 : b2 = true → b1 = true
  o3_2 : b3 = true → b2 = true
  o4_3 : b4 = true → b3 = true
  o5_4 : b5 = true → b4 = true
  o6_5 : b6 = true → b5 = true
  o7_6 : b7 = true → b6 = true
  o8_6 : b8 = true → b6 = true
  o9_7 : b9 = true → b7 = true
  o9_8 : b9 = true → b8 = true
  o10_9 : b10 = true → b9 = true
  o11_10 : b11 = true → b10 = true
  o12_11 : b12 = true → b11 = true
  o13_12 : b13 = true → b12 = true
  o14_13 : b14 = true → b13 = true
  o15_14 : b15 = true → b14 = true
  o16_0 : b16 = true → b0 = true
  o16_11 : b16 = true → b11 = true
  o17_15 : b17 = true → b15 = true
  o16_3 : b16 = true → b3 = true
  o16_7 : b16 = true → b7 = true
/-- What holds in the midst of the last region. -/
structure RlC1 (W : World) (R : Nat) (k f : Int) (ia : Option Addr) (n ic : Nat) (oa : Option Addr) (m oc : Nat) (t tx : List UInt8) (cf : Int) (v : World) (a : Act) (b0 b1 b2 b3 b4 b5 b6 b7 b8 b9 b10 b11 b12 b13 b14 b15 b16 b17 : Bool) : Prop where
  bel : b16 = false → Below W.heap.size W v
  f0 : b0 = true → a.tmps[120]? = some (.agg #[.int .i64 k, .int .i64 f, .slice ia n ic, .slice oa m oc])
  f1 : b1 = true → a.tmps[121]? = some (.bool true)
  f2 : b2 = true → a.tmps[122]? = some (.bool true)
  f3 : b3 = true → a.tmps[123]? = some (.int .i64 0)
  f4 : b4 = true → a.tmps[124]? = some (.bool true)
  f5 : b5 = true → a.tmps[125]? = some (.bool true)
  f6 : b6 = true → a.tmps[126]? = some (.bool true)
  f7 : b7 = true → a.tmps[127]? = some (.string (str tx))
  f8 : b8 = true → a.tmps[128]? = some (.string (str t))
  f9 : b9 = true → a.tmps[129]? = some (.bool false)
  f10 : b10 = true → a.tmps[130]? = some (.bool false)
  f11 : b11 = true → a.tmps[131]? = some (.bool false)
  f12 : b12 = true → a.tmps[132]? = some (undef)
  f13 : b13 = true → a.tmps[133]? = some (undef)
  f14 : b14 = true → a.tmps[134]? = some (undef)
  f15 : b15 = true → a.tmps[135]? = some (.bool false)
  f16 : b16 = true → ∃ u, Below W.heap.size W u ∧ v = four R u (.int .i64 k) (.int .i64 f) (.slice ia n ic) (.slice oa m oc)
  f17 : b17 = true → a.tmps[3]? = some (.bool false)
  o2_1 : b2 = true → b1 = true
  o3_2 : b3 = true → b2 = true
  o4_3 : b4 = true → b3 = true
  o5_4 : b5 = true → b4 = true
  o6_5 : b6 = true → b5 = true
  o7_6 : b7 = true → b6 = true
  o8_6 : b8 = true → b6 = true
  o9_7 : b9 = true → b7 = true
  o9_8 : b9 = true → b8 = true
  o10_9 : b10 = true → b9 = true
  o11_10 : b11 = true → b10 = true
  o12_11 : b12 = true → b11 = true
  o13_12 : b13 = true → b12 = true
  o14_13 : b14 = true → b13 = true
  o15_14 : b15 = true → b14 = true
  o16_0 : b16 = true → b0 = true
  o16_11 : b16 = true → b11 = true
  o17_15 : b17 = true → b15 = true
  o16_3 : b16 = true → b3 = true
  o16_7 : b16 = true → b7 = true
/-- What holds in the midst of the last region. -/
structure RlC2 (W : World) (R : Nat) (k f : Int) (ia : Option Addr) (n ic : Nat) (oa : Option Addr) (m oc : Nat) (t tx : List UInt8) (cf : Int) (v : World) (a : Act) (b0 b1 b2 b3 b4 b5 b6 b7 b8 b9 b10 b11 b12 b13 b14 b15 b16 b17 : Bool) : Prop where
  bel : b16 = false → Below W.heap.size W v
  f0 : b0 = true → a.tmps[120]? = some (.agg #[.int .i64 k, .int .i64 f, .slice ia n ic, .slice oa m oc])
  f1 : b1 = true → a.tmps[121]? = some (.bool true)
  f2 : b2 = true → a.tmps[122]? = some (.bool true)
  f3 : b3 = true → a.tmps[123]? = some (.int .i64 0)
  f4 : b4 = true → a.tmps[124]? = some (.bool true)
  f5 : b5 = true → a.tmps[125]? = some (.bool true)
  f6 : b6 = true → a.tmps[126]? = some (.bool true)
  f7 : b7 = true → a.tmps[127]? = some (.string (str tx))
  f8 : b8 = true → a.tmps[128]? = some (.string (str t))
  f9 : b9 = true → a.tmps[129]? = some (.bool true)
  f10 : b10 = true → a.tmps[130]? = some (.bool true)
  f11 : b11 = true → a.tmps[131]? = some (.bool true)
  f12 : b12 = true → a.tmps[132]? = some (.string (str t))
  f13 : b13 = true → a.tmps[133]? = some (.int .i64 (t.length : Nat))
  f14 : b14 = true → a.tmps[134]? = some (.bool false)
  f15 : b15 = true → a.tmps[135]? = some (.bool false)
  f16 : b16 = true → ∃ u, Below W.heap.size W u ∧ v = four R u (.int .i64 k) (.int .i64 f) (.slice ia n ic) (.slice oa m oc)
  f17 : b17 = true → a.tmps[3]? = some (.bool false)
  o2_1 : b2 = true → b1 = true
  o3_2 : b3 = true → b2 = true
  o4_3 : b4 = true → b3 = true
  o5_4 : b5 = true → b4 = true
  o6_5 : b6 = true → b5 = true
  o7_6 : b7 = true → b6 = true
  o8_6 : b8 = true → b6 = true
  o9_7 : b9 = true → b7 = true
  o9_8 : b9 = true → b8 = true
  o10_9 : b10 = true → b9 = true
  o11_10 : b11 = true → b10 = true
  o12_11 : b12 = true → b11 = true
  o13_12 : b13 = true → b12 = true
  o14_13 : b14 = true → b13 = true
  o15_14 : b15 = true → b14 = true
  o16_0 : b16 = true → b0 = true
  o16_11 : b16 = true → b11 = true
  o17_15 : b17 = true → b15 = true
  o16_3 : b16 = true → b3 = true
  o16_7 : b16 = true → b7 = true

end Go.Proofs.YtppfhepipadepaaGreatDoor
