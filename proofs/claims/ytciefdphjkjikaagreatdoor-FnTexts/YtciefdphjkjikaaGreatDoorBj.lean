/- What the specification's l3Parse shares: how it starts, what it leaves, its last region. -/
import Derived.Test.YtciefdphjkjikaaGreatDoorBi
import Derived.Test.YtciefdphjkjikaaGreatDoorBh
import Derived.Test.YtciefdphjkjikaaGreatDoorRw
namespace Go.Proofs.YtciefdphjkjikaaGreatDoor
open Go.RowKit Go.Shelf Go.Maps Go.WideMaps

/-- What l3Parse leaves. -/
def OutSp (w w' : World) (e : Ending) (t : List UInt8) : Prop := Below w.heap.size w w' ∧ ((∃ x g0 c0 g1 c1 lo mid hi kv, parT t = some x ∧ e = .returned (.tuple #[.agg #[.int .i64 x.k, .int .i64 x.f, .slice (some ⟨g0, 0, none⟩) x.rs.length c0, .slice (some ⟨g1, 0, none⟩) x.os.length c1], .bool true]) ∧ TOwn w' lo mid hi x.rs.length x.os.length g0 c0 g1 c1 x.rs x.os kv ∧ w.heap.size ≤ lo ∧ hi ≤ w'.heap.size) ∨ (parT t = none ∧ ∃ (k f : Int) (ia : Option Addr) (n ic : Nat) (oa : Option Addr) (m oc : Nat), e = .returned (.tuple #[.agg #[.int .i64 k, .int .i64 f, .slice ia n ic, .slice oa m oc], .bool false])))
theorem cut_start (t : List UInt8) (w : World) (ht : t.length ≤ 1048576) : Calls Tryz.prog 50 #[.string (str t), .int .u8 32] (w.alloc (.cells #[.int .i64 0, .int .i64 0, .slice none 0 0, .slice none 0 0] 28)) fun e w' => ∃ g vc, e = .returned (.slice (some ⟨g, 0, none⟩) (cutL 32 t).length vc) ∧ Hid (w'.ownsRow (w.heap.size + 1) 9 1 (.slice (some ⟨g, 0, none⟩) (cutL 32 t).length vc) (cutL 32 t).length (texts (cutL 32 t))) ∧ Hid (Below (w.heap.size + 1) (w.alloc (.cells #[.int .i64 0, .int .i64 0, .slice none 0 0, .slice none 0 0] 28)) w') := by
  have hs1 : (w.alloc (.cells #[.int .i64 0, .int .i64 0, .slice none 0 0, .slice none 0 0] 28)).heap.size = w.heap.size + 1 := by simp
  refine (l2Cut_any t 32 (w.alloc (.cells #[.int .i64 0, .int .i64 0, .slice none 0 0, .slice none 0 0] 28)) ht).mono fun e w' ⟨va, vc, e1, hO, hb⟩ => ?_
  obtain ⟨g, rfl⟩ := row_some hO (by have := List.length_pos_iff.2 (cutL_ne 32 t); omega)
  rw [hs1] at hO hb
  exact ⟨g, vc, e1, hO, hb⟩
theorem sl_start {w u : World} {g vc N : Nat} {ws : List (List UInt8)} (k f : Int) (hN : ws.length = N) (h1 : u.ownsRow (w.heap.size + 1) 9 1 (.slice (some ⟨g, 0, none⟩) N vc) N (texts ws)) (h2 : Below (w.heap.size + 1) (w.alloc (.cells #[.int .i64 0, .int .i64 0, .slice none 0 0, .slice none 0 0] 28)) u) : Sl w (u.alloc (.cells #[.int .i64 k, .int .i64 f, .slice none 0 0, .slice none 0 0] 28)) g ws u.heap.size (u.heap.size + 1) k f none 0 0 [] none 0 0 none 0 0 [] (fun _ => .slice none 0 0) := by
  have hb : Below u.heap.size u (u.alloc (.cells #[.int .i64 k, .int .i64 f, .slice none 0 0, .slice none 0 0] 28)) := below_box _
  have hg := h1.lt g rfl
  have hsz := h2.size
  have hbw : Below w.heap.size w u := (below_box _).trans (h2.mono (by omega))
  have hR : u.heap[w.heap.size]? = some (.cells #[.int .i64 0, .int .i64 0, .slice none 0 0, .slice none 0 0] 28 (0, 0)) := (h2.block w.heap.size (by omega)).trans (heap_alloc_new _ _)
  simp at hsz
  exact ⟨fun i hi => (hb.cell (p := ⟨g, i, none⟩) hg.2).trans (row_at h1 hN (by omega)), heap_alloc_new _ _, (keepb hR hb).out, World.ownsRow_nil _ _ _ _, fun b hb => by simp [Value.ownBlock] at hb, OOwn.none, hbw.trans (hb.mono hbw.size), by simp; omega⟩
theorem smem_short {ws : List (List UInt8)} {N : Nat} {k : Int} (hN : ws.length = N) (h : N < 2) : smem k (ws.drop 1) = none := by
  rw [List.drop_of_length_le (by omega)]; rfl
theorem smem_at {ws : List (List UInt8)} {N : Nat} {k : Int} (hN : ws.length = N) (h : 1 < N) : smem k (ws.drop 1) = if (numR (ws.getD 1 []) 3).2 = true then srest k (numR (ws.getD 1 []) 3).1 (ws.drop 2) else none := by
  have h1 : 1 < ws.length := by omega
  have e : ws.drop 1 = ws.getD 1 [] :: ws.drop 2 := by
    rw [List.drop_eq_getElem_cons h1, List.getD, List.getElem?_eq_getElem h1]; rfl
  rw [e]
  rfl
theorem srest_short {k f : Int} {l : List (List UInt8)} (h : l.length < 2) : srest k f l = none := by
  match l, h with
  | [], _ => rfl
  | [a], _ => rfl
theorem srest_at {ws : List (List UInt8)} {N j : Nat} {k f : Int} (hN : ws.length = N) (h : j + 1 < N) : srest k f (ws.drop j) = (match mapO sref (cutL 43 (ws.getD j [])), mapO sout (ws.drop (j + 1)) with
    | some rs, some os => some ⟨k, f, rs, os⟩
    | _, _ => none) := by
  have h0 : j < ws.length := by omega
  have h1 : j + 1 < ws.length := by omega
  have e : ws.drop j = ws.getD j [] :: ws.drop (j + 1) := by
    rw [List.drop_eq_getElem_cons h0, List.getD, List.getElem?_eq_getElem h0]; rfl
  have e2 : ws.drop (j + 1) = ws.getD (j + 1) [] :: ws.drop (j + 1 + 1) := by
    rw [List.drop_eq_getElem_cons h1, List.getD, List.getElem?_eq_getElem h1]; rfl
  rw [e, e2, srest]
  cases mapO sref (cutL 43 (ws.getD j [])) <;> cases mapO sout (ws.getD (j + 1) [] :: ws.drop (j + 1 + 1)) <;> rfl
theorem outs_atS {ws : List (List UInt8)} {j0 m i : Nat} {os : List Ou} {q : Ou} (h : ((ws.drop j0).take m).map sout = os.map some) (hi : i = j0 + m) (hl : i < ws.length) (hq : sout (ws.getD i []) = some q) : ((ws.drop j0).take (m + 1)).map sout = (os ++ [q]).map some := by
  subst hi
  have e : (ws.drop j0)[m]? = some (ws.getD (j0 + m) []) := by
    rw [List.getElem?_drop, List.getD, List.getElem?_eq_getElem hl]; rfl
  rw [List.take_add_one, e, List.map_append, h, List.map_append]
  show _ ++ [sout (ws.getD (j0 + m) [])] = _
  rw [hq]
  rfl
theorem outs_lenS {ws : List (List UInt8)} {j0 m : Nat} {os : List Ou} (h : ((ws.drop j0).take m).map sout = os.map some) (hl : j0 + m ≤ ws.length) : os.length = m := by
  have := congrArg List.length h
  simp at this
  omega
/-- An out more, in the specification's reading. -/
theorem out_step {w v u3 : World} {g T mid n ic m oc : Nat} {ws : List (List UInt8)} {k f : Int} {ia oa : Option Addr} {rs : List (Int × Int)} {os : List Ou} {kv : Nat → Value} {q : Ou} {va : Option Addr} {ln vk X : Nat} (H : Sl w v g ws T mid k f ia n ic rs oa m oc oa m oc os kv) (hol : os.length = m) (hln : q.l.length = ln)
    (hO : v.ownsRow u3.heap.size 2 1 (.slice va ln vk) ln (ints q.l)) (H3 : Sl w u3 g ws T mid k f ia n ic rs oa m oc oa m oc os kv) (hX : v.heap[X]? = some (.cells #[.int .i64 q.v, .slice va ln vk, .int .i64 q.x, .int .i64 q.y] 44 (0, 0))) (hm : m ≤ 1100000) :
    ∃ g6 c6 w6, (Builtin.append_ #[26, 26] 26 #[.slice oa m oc, .slice (some ⟨X, 0, none⟩) 1 1]).run Tryz.prog v = .ok (.slice (some ⟨g6, 0, none⟩) (m + 1) c6) w6 ∧ Hid (Sl w w6 g ws T mid k f ia n ic rs oa m oc (some ⟨g6, 0, none⟩) (m + 1) c6 (os ++ [q]) (fun i => if i = m then .slice va ln vk else kv i)) := by
  subst hln
  have hext : OOwn v mid v.heap.size (.slice oa m oc) m (fun z => (os ++ [q]).getD z O0) kv := H.out.ext fun z hz => by
    show os.getD z O0 = (os ++ [q]).getD z O0
    rw [List.getD, List.getD, List.getElem?_append_left (by rw [hol]; exact hz)]
  obtain ⟨g', cap, v6, hrun, HA⟩ := out_added (o := q) (u := .slice va q.l.length vk) hext hX rfl (Joins.ownsRow_le hO H3.ord.2.2.2) (fun z hz b hb e => by have h1 := (H3.out.keys z hz).2 b hb; have h2 := (hO.lt b e).1; omega) hm H.ord.2.2.2 (by show (os ++ [q]).getD m O0 = q; rw [List.getD, List.getElem?_append_right (by rw [hol]; exact Nat.le_refl _), hol]; simp)
  have hbm : Below mid v v6 := (Below.refl _ _).grown HA.out.2 H.ord.2.2.2 (fun b hb => by obtain ⟨zs, h1, _⟩ := H.out.row; exact (h1.lt b hb).1)
  exact ⟨g', cap, v6, hrun, H.app hbm HA.out.1⟩
/-- What holds in the midst of the last region. -/
structure Rm (W : World) (R : Nat) (kk ff : Int) (ia : Option Addr) (n ic : Nat) (oa : Option Addr) (m oc : Nat) (t tx : List UInt8) (cf : Int) (okF okT okB okL okR : Bool) (V : World) (b0 b1 b2 b3 b4 b5 b6 b7 b8 b9 b10 b11 b12 b13 b14 b15 b16 b17 : Bool) (x0 x1 x2 x3 x4 x5 x6 x7 x8 x9 x10 x11 x12 x13 x14 x15 x16 x17 : Value) : Prop where
  g0 : b0 = true → x0 = .agg #[.int .i64 kk, .int .i64 ff, .slice ia n ic, .slice oa m oc]
  g1 : b1 = true → x1 = .bool true
  g2 : b2 = true → x2 = .bool true
  g3 : b3 = true → x3 = .int .i64 cf
  g4 : b4 = true → x4 = .bool okF
  g5 : b5 = true → x5 = .bool okF
  g6 : b6 = true → x6 = .bool okF
  g7 : b7 = true → x7 = (if okF = true then .string (str tx) else undef)
  g8 : b8 = true → x8 = (if okF = true then .string (str t) else undef)
  g9 : b9 = true → x9 = (if okF = true then .bool okT else undef)
  g10 : b10 = true → x10 = .bool okB
  g11 : b11 = true → x11 = .bool okB
  g12 : b12 = true → x12 = (if okB = true then .string (str t) else undef)
  g13 : b13 = true → x13 = (if okB = true then .int .i64 (t.length : Nat) else undef)
  g14 : b14 = true → x14 = (if okB = true then .bool okL else undef)
  g15 : b15 = true → x15 = .bool okR
  g17 : b17 = true → x17 = .bool okR
  o2_1 : b2 = true → b1 = true
  o3_2 : b3 = true → b2 = true
  o4_3 : b4 = true → b3 = true
  o5_4 : b5 = true → b4 = true
  o6_5 : b6 = true → b5 = true
  o7_6 : b7 = true → b6 = true
  o8_6 : b8 = true → b6 = true
  o9_7 : b9 = true → b7 = true
  o9_8 : b9 = true → b8 = true
  o10_9 : b10 = true → b9 = true
  o11_10 : b11 = true → b10 = true
  o12_11 : b12 = true → b11 = true
  o13_12 : b13 = true → b12 = true
  o14_13 : b14 = true → b13 = true
  o15_14 : b15 = true → b14 = true
  o16_0 : b16 = true → b0 = true
  o16_11 : b16 = true → b11 = true
  o16_3 : b16 = true → b3 = true
  o16_7 : b16 = true → b7 = true
  o17_15 : b17 = true → b15 = true
  bel : b16 = false → Below W.heap.size W V
  f16 : b16 = true → ∃ u, Below W.heap.size W u ∧ V = four R u (.int .i64 kk) (.int .i64 ff) (.slice ia n ic) (.slice oa m oc)

end Go.Proofs.YtciefdphjkjikaaGreatDoor
