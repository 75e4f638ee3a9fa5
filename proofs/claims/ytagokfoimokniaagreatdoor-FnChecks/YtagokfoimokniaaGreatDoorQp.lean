/- The program's SpentBy keeps its contract. -/
import Derived.Test.YtagokfoimokniaaGreatDoorQo
import Derived.Test.YtagokfoimokniaaGreatDoorQg
import Derived.Test.YtagokfoimokniaaGreatDoorQb
namespace Go.Proofs.YtagokfoimokniaaGreatDoor
open Go.RowKit Go.Maps Go.WideMaps

theorem missing_nil (w : World) : Calls Tryz.prog 35 #[.nilIface] w fun e w' => e = .returned (.int .i64 0) ∧ Below w.heap.size w w' := by
  have hbx : Below w.heap.size w (w.alloc (.cells #[.string ⟨#[]⟩, .int .i64 0] 141)) := below_box _
  have hA := as_nil (.iface 144 (.pointer (some ⟨w.heap.size, 0, none⟩))) (w.alloc (.cells #[.string ⟨#[]⟩, .int .i64 0] 141))
  have hA' : Calls Tryz.prog 79 #[.nilIface, .iface 144 (.pointer (some ⟨w.heap.size, 0, none⟩))] (w.alloc (.cells #[.string ⟨#[]⟩, .int .i64 0] 141)) fun e w' => e = .returned (.bool false) ∧ Hid (Below w.heap.size w w') := hA.mono fun e w' h => ⟨h.1, by rw [h.2]; exact hbx⟩
  clear hA hbx
  go_enter Tryz.func35, Tryz.ntmps35
  go_wp2_with (first | (go_at_call 79; (with_reducible refine hA'.mono ?_); clear hA'; rintro e w2 ⟨rfl, HB⟩))
  go_ret
  exact ⟨rfl, HB.out⟩
theorem missing_hit (s : ByteArray) (c : Int) (w : World) (hg : w.cell? ⟨1, 0, none⟩ = some (.iface 224 (.agg #[.pointer (some ⟨8, 90, none⟩)]))) : Calls Tryz.prog 35 #[.iface 141 (.agg #[.string s, .int .i64 c])] w fun e w' => e = .returned (.int .i64 c) ∧ Below w.heap.size w w' := by
  have hbx : Below w.heap.size w (w.alloc (.cells #[.string ⟨#[]⟩, .int .i64 0] 141)) := below_box _
  have hX := heap_alloc_new w (.cells #[.string ⟨#[]⟩, .int .i64 0] 141)
  obtain ⟨s0, s1⟩ := cells2 hX
  have hA := as_hit w.heap.size s c _ _ (w.alloc (.cells #[.string ⟨#[]⟩, .int .i64 0] 141)) ((hbx.cell (p := ⟨1, 0, none⟩) (block_lt_of_cell hg)).trans hg) s0 s1 (Joins.unfrozen_of_block hX 0) (Joins.unfrozen_of_block hX 1)
  have hA' : Calls Tryz.prog 79 #[.iface 141 (.agg #[.string s, .int .i64 c]), .iface 144 (.pointer (some ⟨w.heap.size, 0, none⟩))] (w.alloc (.cells #[.string ⟨#[]⟩, .int .i64 0] 141)) fun e w' => e = .returned (.bool true) ∧ w'.cell? ⟨w.heap.size, 1, none⟩ = some (.int .i64 c) ∧ Hid (Below w.heap.size w w') := hA.mono fun e w' h => by
    refine ⟨h.1, ?_, ?_⟩
    · rw [h.2]
      have b0 := (keepb (keepb (keepb (keepb hX (below_box (.cells #[.pointer (some ⟨w.heap.size, 0, none⟩)] 144))).out (below_box (.cells #[.pointer (some ⟨8, 144, none⟩), .pointer (some ⟨(w.alloc (.cells #[.string ⟨#[]⟩, .int .i64 0] 141)).heap.size, 0, none⟩), .int .u64 150] 192))).out (below_box (.cells #[.pointer (some ⟨8, 144, none⟩), .pointer (some ⟨(w.alloc (.cells #[.string ⟨#[]⟩, .int .i64 0] 141)).heap.size, 0, none⟩), .int .u64 150] 192))).out (below_box (.cells #[.string s, .int .i64 c] 141))).out
      have b2 := Joins.block_setCell (i := 1) (Joins.block_setCell (i := 0) b0 (.string s)) (.int .i64 c)
      unfold World.cell?
      rw [b2]; rfl
    · show Below _ _ _
      rw [h.2]
      have b1 := (((hbx.trans ((below_box (.cells #[.pointer (some ⟨w.heap.size, 0, none⟩)] 144)).mono hbx.size)).trans ((below_box (.cells #[.pointer (some ⟨8, 144, none⟩), .pointer (some ⟨(w.alloc (.cells #[.string ⟨#[]⟩, .int .i64 0] 141)).heap.size, 0, none⟩), .int .u64 150] 192)).mono (by simp; omega))).trans ((below_box (.cells #[.pointer (some ⟨8, 144, none⟩), .pointer (some ⟨(w.alloc (.cells #[.string ⟨#[]⟩, .int .i64 0] 141)).heap.size, 0, none⟩), .int .u64 150] 192)).mono (by simp; omega))).trans ((below_box (.cells #[.string s, .int .i64 c] 141)).mono (by simp; omega))
      exact (b1.setCell (p := ⟨w.heap.size, 0, none⟩) (Nat.le_refl _) _).setCell (p := ⟨w.heap.size, 1, none⟩) (Nat.le_refl _) _
  clear hA hbx hX s0 s1 hg
  go_enter Tryz.func35, Tryz.ntmps35
  go_wp2_with (first | (go_at_call 79; (with_reducible refine hA'.mono ?_); clear hA'; rintro e w2 ⟨rfl, y1, HB⟩))
  go_ret
  exact ⟨rfl, HB.out⟩

/-- In the midst of gathering what is spent. -/
structure SpM (w wr : World) (S : Nat) (cs : List Co) (rs : List (Int × Int)) (j : Nat) (qs : List (Co × Value)) : Prop where
  pu : Pu wr w.heap.size S qs
  mem : ∀ c, c ∈ qs.map (·.1) ↔ c ∈ cs ∧ (c.p, c.q) ∈ rs.take j
  bel : Below w.heap.size w wr
  all : ∀ t, t < j → hasC cs (rs.getD t G0) = true
theorem take_ref {rs : List (Int × Int)} {n j : Nat} {o : Int × Int} (hn : rs.length = n) (hlt : j < n) (ho : o = rs.getD j G0) : rs.take (j + 1) = rs.take j ++ [o] := by
  rw [List.take_add_one, ho, List.getD, List.getElem?_eq_getElem (by omega)]; rfl
theorem ref_fresh {rs : List (Int × Int)} {n j : Nat} {o : Int × Int} (hn : rs.length = n) (hlt : j < n) (ho : o = rs.getD j G0) (hd : rs.Nodup) : o ∉ rs.take j := fun h => by
  obtain ⟨i, hi, e⟩ := List.getElem_of_mem h
  rw [List.length_take] at hi
  rw [List.getElem_take] at e
  have := List.pairwise_iff_getElem.1 hd i j (by omega) (by omega) (by omega)
  rw [ho, List.getD, List.getElem?_eq_getElem (by omega)] at e
  exact this e
theorem SpM.find {w wr : World} {S n j : Nat} {cs : List Co} {rs : List (Int × Int)} {qs : List (Co × Value)} {o : Int × Int} (h : SpM w wr S cs rs j qs) (hn : rs.length = n) (hlt : j < n) (ho : o = rs.getD j G0) (hd : rs.Nodup) : findP qs o = none := by
  unfold findP
  rw [List.find?_eq_none]
  intro y hy e
  have e2 : (y.1.p, y.1.q) = o := of_decide_eq_true e
  have := ((h.mem y.1).1 (List.mem_map.2 ⟨y, hy, rfl⟩)).2
  rw [e2] at this
  exact ref_fresh hn hlt ho hd this
theorem SpM.len {w wr : World} {S j : Nat} {cs : List Co} {rs : List (Int × Int)} {qs : List (Co × Value)} (h : SpM w wr S cs rs j qs) : qs.length ≤ cs.length := by
  have h1 : (qs.map refOf).Nodup := by unfold List.Nodup; rw [List.pairwise_map]; exact h.pu.refs
  have a := sub_length (qs.map refOf) (refsC cs) h1 fun r hr => by
    obtain ⟨x, hx, rfl⟩ := List.mem_map.1 hr
    exact List.mem_map.2 ⟨x.1, ((h.mem x.1).1 (List.mem_map.2 ⟨x, hx, rfl⟩)).1, rfl⟩
  simp [refsC] at a
  exact a
theorem SpM.step {w wr w' : World} {S n j : Nat} {cs : List Co} {rs : List (Int × Int)} {qs : List (Co × Value)} {o : Int × Int} {x : Co} {u : Value} (h : SpM w wr S cs rs j qs) (hn : rs.length = n) (hlt : j < n) (ho : o = rs.getD j G0) (hc : RiseC cs) (hx : x ∈ cs) (hxo : (x.p, x.q) = o) (hp : Pu w' w.heap.size S (qs ++ [(x, u)])) (hb : Below w.heap.size w w') : SpM w w' S cs rs (j + 1) (qs ++ [(x, u)]) := by
  refine ⟨hp, fun c => ?_, hb, fun t ht => ?_⟩
  · rw [List.map_append, List.mem_append, h.mem c, take_ref hn hlt ho, List.mem_append, List.mem_singleton]
    constructor
    · rintro (⟨a, b⟩ | e)
      · exact ⟨a, .inl b⟩
      · have e2 : c = x := by simpa using e
        rw [e2]; exact ⟨hx, .inr hxo⟩
    · rintro ⟨a, b | b⟩
      · exact .inl ⟨a, b⟩
      · right
        have := rise_inj hc a hx (b.trans hxo.symm)
        simp [this]
  · rcases Nat.lt_or_ge t j with h1 | h1
    · exact h.all t h1
    · obtain rfl : t = j := by omega
      rw [← ho, ← hxo]
      exact hasC_iff.2 (List.mem_map.2 ⟨x, hx, rfl⟩)

def SpB (w w' : World) (e : Ending) (b : Bool) (ts : List Co) : Prop :=
  Below w.heap.size w w' ∧ ((b = false ∧ e = .returned (.tuple #[.slice none 0 0, .iface 141 (.agg #[.string ⟨#[97, 32, 99, 111, 105, 110]⟩, .int .i64 4])])) ∨ (b = true ∧ ∃ va vc, e = .returned (.tuple #[.slice va ts.length vc, .nilIface]) ∧ ∃ kv, COwn w' w.heap.size w'.heap.size (.slice va ts.length vc) ts.length (fun j => ts.getD j C0) kv))

set_option maxRecDepth 20000 in
set_option maxHeartbeats 4000000 in
theorem spentBy_any (B lo : Nat) (ps : List (Co × Value)) (cs : List Co) (n c m d : Nat) (ia oa : Option Addr) (k f : Int) (rs : List (Int × Int)) (w : World) (hH : Holds w lo B ps cs) (hks : ∀ c ∈ cs, 1 ≤ c.l.length) (hn : n ≤ 1000) (hrb : ∀ r ∈ rs, refB r = true) (hrd : rs.Nodup) (hG : GAt w ia n rs) :
    Calls Tryz.prog 34 #[.map (some B), .agg #[.int .i64 k, .int .i64 f, .slice ia n c, .slice oa m d]] w fun e w' => SpB w w' e (rs.all (hasC cs)) (inC cs rs) := by
  have hmm := @run_makeMap Tryz.prog
  have hbx : Below w.heap.size w ((w.alloc (.cells #[.int .i64 k, .int .i64 f, .slice ia n c, .slice oa m d] 32)).alloc (.map #[] 0)) := below_box2 _ _
  have HBX : Hid (Below w.heap.size w ((w.alloc (.cells #[.int .i64 k, .int .i64 f, .slice ia n c, .slice oa m d] 32)).alloc (.map #[] 0))) := hbx
  obtain ⟨p0, p1, p2, p3, _⟩ := cells4 ((keepb (heap_alloc_new w (.cells #[.int .i64 k, .int .i64 f, .slice ia n c, .slice oa m d] 32)) (below_box (.map #[] 0))).out)
  have HM0 : Hid (Pu ((w.alloc (.cells #[.int .i64 k, .int .i64 f, .slice ia n c, .slice oa m d] 32)).alloc (.map #[] 0)) w.heap.size (w.alloc (.cells #[.int .i64 k, .int .i64 f, .slice ia n c, .slice oa m d] 32)).heap.size []) := Pu.made (by simp)
  have hS : (w.alloc (.cells #[.int .i64 k, .int .i64 f, .slice ia n c, .slice oa m d] 32)).heap.size = w.heap.size + 1 := by simp
  rw [hS] at HM0
  have HHP : Hid (Holds w lo B ps cs) := hH
  have HKS : Hid (∀ c ∈ cs, 1 ≤ c.l.length) := hks
  have HRB : Hid (∀ r ∈ rs, refB r = true) := hrb
  have HRD : Hid (rs.Nodup) := hrd
  have HG : Hid (GAt w ia n rs) := hG
  have HN : Hid (rs.length = n) := hG.1
  have hBl := hH.pu.lt
  obtain ⟨ts, hts⟩ : ∃ t, t = inC cs rs := ⟨_, rfl⟩
  have HTS : Hid (ts = inC cs rs) := hts
  rw [← hts]
  obtain ⟨bb, hbb⟩ : ∃ t, t = rs.all (hasC cs) := ⟨_, rfl⟩
  have HBB : Hid (bb = rs.all (hasC cs)) := hbb
  rw [← hbb]
  clear hH hks hrb hrd hG hbx hts hbb hS
  go_enter Tryz.func34, Tryz.ntmps34
  go_wp2
  obtain ⟨S, hSS⟩ : ∃ S, S = w.heap.size + 1 := ⟨_, rfl⟩
  rw [← hSS]
  rw [← hSS] at HM0
  have HSS : Hid (S = w.heap.size + 1) := hSS
  clear hSS
  go_loopw [15] (fun i wr => ∃ j : Nat, j ≤ n ∧ i = .int .i64 j ∧ Hid (∃ qs, SpM w wr S cs rs j qs)) (fun i _ => n - (intOf i).toNat)
  case atStart => exact ⟨0, Nat.zero_le _, rfl, [], HM0.out, fun c => by simp, HBX.out, fun t ht => by omega⟩
  case round =>
    obtain ⟨j, hj, rfl, HM⟩ := hrel
    obtain ⟨qs, hM⟩ := HM.out
    have hbel := hM.bel
    clear p0 p1 p2 p3
    by_cases hlt : j < n
    · rcases HG.out.2 with h0 | ⟨b, off, e0, l0, d0⟩
      · omega
      subst e0
      obtain ⟨o, ho⟩ : ∃ o, o = rs.getD j G0 := ⟨_, rfl⟩
      obtain ⟨z0, z1⟩ := d0 j hlt
      rw [← ho] at z0 z1
      have x0 := (hbel.cell (p := ⟨b, off + j * 2, none⟩) l0).trans z0
      have x1 := (hbel.cell (p := ⟨b, off + j * 2 + 1, none⟩) l0).trans z1
      have hmem := ref_mem HN.out hlt ho
      have hwf := ref_wf (HRB.out _ hmem)
      have hfq := hM.find HN.out hlt ho HRD.out
      have HO1 : Hid (o = rs.getD j G0) := ho
      have hql := hM.len
      have hcl := HHP.out.few
      have hki : (j : Int) < (n : Int) := by omega
      have HMM : Hid (SpM w wr S cs rs j qs) := hM
      obtain ⟨op, oq⟩ := o
      simp only at x0 x1 hwf
      have hbA : Below w.heap.size w (wr.alloc (.cells #[.int .i64 op, .int .i64 oq] 47)) := hbel.trans ((below_box _).mono hbel.size)
      have HBA : Hid (Below w.heap.size w (wr.alloc (.cells #[.int .i64 op, .int .i64 oq] 47))) := hbA
      obtain ⟨s0, s1⟩ := cells2 (heap_alloc_new wr (.cells #[.int .i64 op, .int .i64 oq] 47))
      have hPA := HHP.out.pu.below hbA
      clear d0 ho z0 z1 hM HM hmem
      cases hf : findP ps (op, oq) with
      | none =>
        have hl := hPA.lacks hf hwf.1 hwf.2
        have HFI : Hid (bb = false) := by
          show _ = _
          rw [HBB.out]
          refine all_not HN.out hlt ?_
          rw [← HO1.out, hasC_mem HHP.out.mem, has_map, hf]; rfl
        have HBZ : Hid (Below w.heap.size w ((wr.alloc (.cells #[.int .i64 op, .int .i64 oq] 47)).alloc (.cells #[.int .i64 0, .int .i64 0, .int .i64 0, .slice none 0 0, .int .i64 0, .int .i64 0, .int .i64 0, .bool false] 54))) := hbA.trans ((below_box _).mono hbA.size)
        clear hPA hf hwf hfq hbel hbA
        go_wp2
        refine bodyPost_ret (v := .tuple #[.slice none 0 0, .iface 141 (.agg #[.string ⟨#[97, 32, 99, 111, 105, 110]⟩, .int .i64 4])]) (by simp [results, Tryz.results34, go_sem]) rfl ?_
        exact ⟨HBZ.out, .inl ⟨HFI.out, rfl⟩⟩
      | some x =>
        obtain ⟨hx1, hx2⟩ := find_get hf
        have hxc : x.1 ∈ cs := (HHP.out.mem x.1).2 (List.mem_map.2 ⟨x, hx1, rfl⟩)
        have hl1 := HKS.out _ hxc
        have hl2 := HHP.out.good _ hxc
        have hrow := hPA.rows x hx1
        obtain ⟨ua, uc, hu, hl⟩ := hPA.found hf hwf.1 hwf.2
        obtain ⟨kb, kc, hu2⟩ : ∃ kb kc, x.2 = .slice (some ⟨kb, 0, none⟩) x.1.l.length kc := by
          rcases hrow.2 with ⟨_, e1⟩ | ⟨g, cp, cur, e1, _⟩
          · omega
          · exact ⟨g, cp, e1⟩
        rw [hu2] at hrow hu
        injection hu with q1 q2 q3
        subst q1
        subst q3
        have HXC : Hid (x.1 ∈ cs) := hxc
        have hxp : x.1.p = op := (Prod.mk.inj (show (x.1.p, x.1.q) = (op, oq) from hx2)).1
        have hxq : x.1.q = oq := (Prod.mk.inj (show (x.1.p, x.1.q) = (op, oq) from hx2)).2
        obtain ⟨ov, hov⟩ : ∃ y, y = x.1.v := ⟨_, rfl⟩
        obtain ⟨ol, hol⟩ : ∃ y, y = x.1.l := ⟨_, rfl⟩
        obtain ⟨ox, hox⟩ : ∃ y, y = x.1.x := ⟨_, rfl⟩
        obtain ⟨oy, hoy⟩ : ∃ y, y = x.1.y := ⟨_, rfl⟩
        obtain ⟨oh, hoh⟩ : ∃ y, y = x.1.h := ⟨_, rfl⟩
        obtain ⟨om, hom⟩ : ∃ y, y = x.1.m := ⟨_, rfl⟩
        have HXE : Hid (x.1 = ⟨op, oq, ov, ol, ox, oy, oh, om⟩) := by show _ = _; rw [← hxp, ← hxq, hov, hol, hox, hoy, hoh, hom]
        rw [hxp, hxq, ← hov, ← hol, ← hox, ← hoy, ← hoh, ← hom] at hl
        rw [← hol] at hl1 hl2 hrow
        have hbB : Below (wr.alloc (.cells #[.int .i64 op, .int .i64 oq] 47)).heap.size (wr.alloc (.cells #[.int .i64 op, .int .i64 oq] 47)) ((wr.alloc (.cells #[.int .i64 op, .int .i64 oq] 47)).alloc (.cells #[.int .i64 op, .int .i64 oq, .int .i64 ov, .slice (some ⟨kb, 0, none⟩) ol.length kc, .int .i64 ox, .int .i64 oy, .int .i64 oh, .bool om] 54)) := below_box _
        have hbW : Below wr.heap.size wr ((wr.alloc (.cells #[.int .i64 op, .int .i64 oq] 47)).alloc (.cells #[.int .i64 op, .int .i64 oq, .int .i64 ov, .slice (some ⟨kb, 0, none⟩) ol.length kc, .int .i64 ox, .int .i64 oy, .int .i64 oh, .bool om] 54)) := (below_box _).trans (hbB.mono (by simp))
        have hput := put_any S w.heap.size kb 0 kc qs op oq ov ol ox oy oh om ((wr.alloc (.cells #[.int .i64 op, .int .i64 oq] 47)).alloc (.cells #[.int .i64 op, .int .i64 oq, .int .i64 ov, .slice (some ⟨kb, 0, none⟩) ol.length kc, .int .i64 ox, .int .i64 oy, .int .i64 oh, .bool om] 54)) (HMM.out.pu.below hbW) (Nat.le_trans hbel.size hbW.size) hl2 ((IAt.owned hrow rfl).below hbB (Nat.le_refl _)) hwf.1 hwf.2 hfq (by omega)
        have HBB2 : Hid (Below w.heap.size w ((wr.alloc (.cells #[.int .i64 op, .int .i64 oq] 47)).alloc (.cells #[.int .i64 op, .int .i64 oq, .int .i64 ov, .slice (some ⟨kb, 0, none⟩) ol.length kc, .int .i64 ox, .int .i64 oy, .int .i64 oh, .bool om] 54))) := hbel.trans (hbW.mono hbel.size)
        obtain ⟨⟨t0, t1, t2, t3, t4, t5, t6, t7⟩, _⟩ := cells8 (heap_alloc_new (wr.alloc (.cells #[.int .i64 op, .int .i64 oq] 47)) (.cells #[.int .i64 op, .int .i64 oq, .int .i64 ov, .slice (some ⟨kb, 0, none⟩) ol.length kc, .int .i64 ox, .int .i64 oy, .int .i64 oh, .bool om] 54))
        clear hPA hf hwf hfq hbel hbA hrow hx1 hx2 hxc hl1 hl2 hov hol hox hoy hoh hom hbB hbW hu2 hxp hxq
        go_wp2_with (first
          | (go_at_call 78; (with_reducible refine hput.mono ?_); clear hput; rintro e w7 ⟨rfl, HPU, hch⟩; have HB7 : Hid (Below w.heap.size w w7) := HBB2.out.trans (hch.below (by have := HSS.out; omega) HBB2.out.size); clear hch))
        go_roundw
        case rel =>
          obtain ⟨u, hu⟩ := HPU.out
          refine ⟨j + 1, by omega, by go_num, _, HMM.out.step (x := ⟨op, oq, ov, ol, ox, oy, oh, om⟩) HN.out hlt HO1.out HHP.out.rise ?_ rfl hu HB7.out⟩
          rw [← HXE.out]; exact HXC.out
        case measure => simp [intOf]; omega
    · have hall : bb = true := by rw [HBB.out]; exact all_get HN.out fun t ht => hM.all t (by omega)
      have hco := coins_any S w.heap.size qs ts wr hM.pu hbel.size (by have := hM.len; have := HHP.out.few; omega) (by rw [HTS.out]; exact HHP.out.rise.filter _) (fun c => by
        rw [hM.mem c, HTS.out, List.take_of_length_le (by rw [HN.out]; omega)]
        unfold inC
        rw [List.mem_filter, memB_here])
      have HAL : Hid (bb = true) := hall
      have HBE : Hid (Below w.heap.size w wr) := hbel
      have hki : ¬ (j : Int) < (n : Int) := by omega
      clear hall hM HM hbel
      go_wp2_with (first
        | (go_at_call 42; (with_reducible refine hco.mono ?_); clear hco; rintro e w5 ⟨v, rfl, HS⟩; obtain ⟨va, vc, hv⟩ := own_slice3 HS.out.1; subst hv))
      refine bodyPost_ret (v := .tuple #[.slice va ts.length vc, .nilIface]) (by simp [results, Tryz.results34, go_sem]) rfl ?_
      exact ⟨HBE.out.trans (HS.out.2.mono HBE.out.size), .inr ⟨HAL.out, va, vc, rfl, HS.out.1⟩⟩

end Go.Proofs.YtagokfoimokniaaGreatDoor
