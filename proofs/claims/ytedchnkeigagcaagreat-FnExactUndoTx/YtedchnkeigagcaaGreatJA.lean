/- Does the purse lack a ref; has it just the refs of a transaction? The program finds the coins of a number in its purse. The program's SameTxs keeps its contract. The program's SameTxs keeps its contract: the whole. Are coins just those that outs make? Is there anything against it that a transaction is taken back? A transaction is taken back in the program's purse. The program's UndoTx keeps its contract. -/
import Derived.Test.YtedchnkeigagcaaGreatQa
import Derived.Test.YtedchnkeigagcaaGreatDh
import Derived.Maps.RangeWalk
import Derived.Test.YtedchnkeigagcaaGreatITx
import Derived.Test.YtedchnkeigagcaaGreatLTxFault
import Derived.Test.YtedchnkeigagcaaGreatJC
import Derived.Lib.QuietBelow
import Derived.Test.YtedchnkeigagcaaGreatJB
import Derived.Test.YtedchnkeigagcaaGreatDi
namespace Go.Proofs.YtedchnkeigagcaaGreat
open Go.RowKit Go.Maps Go.WideMaps

set_option maxRecDepth 20000 in
set_option maxHeartbeats 2000000 in
theorem lacks_any (B lo : Nat) (p q : Int) (ps : List (Co × Value)) (w : World) (hP : Pu w lo B ps) (hp : (Lit.int .i64 p).wf = true) (hq : (Lit.int .i64 q).wf = true) :
    Calls Tryz.prog 76 #[.map (some B), .agg #[.int .i64 p, .int .i64 q]] w fun e w' => e = .returned (.bool (!hasC (ps.map (·.1)) (p, q))) ∧ Below w.heap.size w w' := by
  have hbx : Below w.heap.size w (w.alloc (.cells #[.int .i64 p, .int .i64 q] 66)) := below_box _
  obtain ⟨s0, s1⟩ := cells2 (heap_alloc_new w (.cells #[.int .i64 p, .int .i64 q] 66))
  rw [has_map]
  cases hf : findP ps (p, q) with
  | none =>
    have hl := (hP.below hbx).lacks hf hp hq
    have HB : Hid (Below w.heap.size w ((w.alloc (.cells #[.int .i64 p, .int .i64 q] 66)).alloc (.cells #[.int .i64 0, .int .i64 0, .int .i64 0, .slice none 0 0, .int .i64 0, .int .i64 0, .int .i64 0, .bool false] 72))) := below_box2 _ _
    clear hP hf hp hq hbx
    go_enter Tryz.func76, Tryz.ntmps76
    go_wp2
    go_ret
    exact ⟨rfl, HB.out⟩
  | some x =>
    obtain ⟨ua, uc, hu, hl⟩ := (hP.below hbx).found hf hp hq
    have HB : Hid (Below w.heap.size w ((w.alloc (.cells #[.int .i64 p, .int .i64 q] 66)).alloc (.cells #[.int .i64 x.1.p, .int .i64 x.1.q, .int .i64 x.1.v, .slice ua x.1.l.length uc, .int .i64 x.1.x, .int .i64 x.1.y, .int .i64 x.1.h, .bool x.1.m] 72))) := below_box2 _ _
    clear hP hf hp hq hbx hu
    go_enter Tryz.func76, Tryz.ntmps76
    go_wp2
    go_ret
    exact ⟨rfl, HB.out⟩

theorem ref_mem {rs : List (Int × Int)} {n j : Nat} {o : Int × Int} (hn : rs.length = n) (hlt : j < n) (ho : o = rs.getD j G0) : o ∈ rs := by
  rw [ho, List.getD, List.getElem?_eq_getElem (by omega)]
  exact List.getElem_mem _
theorem all_get {rs : List (Int × Int)} {n : Nat} {f : Int × Int → Bool} (hn : rs.length = n) (h : ∀ t, t < n → f (rs.getD t G0) = true) : rs.all f = true := by
  rw [List.all_eq_true]
  intro x hx
  obtain ⟨t, ht, rfl⟩ := List.getElem_of_mem hx
  have := h t (by omega)
  rw [List.getD, List.getElem?_eq_getElem ht] at this
  exact this
theorem all_not {rs : List (Int × Int)} {n t : Nat} {f : Int × Int → Bool} (hn : rs.length = n) (ht : t < n) (h : f (rs.getD t G0) = false) : rs.all f = false := by
  rw [List.all_eq_false]
  exact ⟨rs.getD t G0, ref_mem hn ht rfl, by rw [h]; exact Bool.false_ne_true⟩
def IdxR (w w' : World) (e : Ending) (b : Bool) : Prop := ∃ i : Int, e = .returned (.int .i64 i) ∧ (b = true → i = -1) ∧ (b = false → 0 ≤ i) ∧ Below w.heap.size w w'

set_option maxRecDepth 20000 in
set_option maxHeartbeats 2000000 in
theorem idxLacks_any (n c B lo : Nat) (a : Option Addr) (rs : List (Int × Int)) (ps : List (Co × Value)) (w : World) (hn : n ≤ 1000) (hG : GAt w a n rs) (hr : ∀ r ∈ rs, refB r = true) (hP : Pu w lo B ps) :
    Calls Tryz.prog 109 #[.slice a n c, .func (.func 76) #[.map (some B)] #[]] w fun e w' => IdxR w w' e (rs.all (hasC (ps.map (·.1)))) := by
  have HC : Hid (GAt w a n rs) := hG
  have HN : Hid (rs.length = n) := hG.1
  obtain ⟨pd, hpd⟩ : ∃ q : Int × Int → Bool, q = hasC (ps.map (·.1)) := ⟨_, rfl⟩
  have HCA : Hid (∀ W (p q : Int), Below w.heap.size w W → (p, q) ∈ rs → Calls Tryz.prog 76 #[.map (some B), .agg #[.int .i64 p, .int .i64 q]] W fun e w' => e = .returned (.bool (!pd (p, q))) ∧ Below W.heap.size W w') := fun W p q hW hs => by
    rw [hpd]; exact lacks_any B lo p q ps W (hP.below hW) (ref_wf (hr _ hs)).1 (ref_wf (hr _ hs)).2
  rw [← hpd]
  clear hG hr hP hpd
  go_enter Tryz.func109, Tryz.ntmps109
  go_wp2
  go_loopw [8] (fun i wr => ∃ j : Nat, j ≤ n ∧ i = .int .i64 j ∧ Below w.heap.size w wr ∧ Hid (∀ t, t < j → pd (rs.getD t G0) = true)) (fun i _ => n - (intOf i).toNat)
  case atStart => exact ⟨0, Nat.zero_le _, rfl, Below.refl _ _, fun t ht => by omega⟩
  case round =>
    obtain ⟨j, hj, rfl, hbel, HI⟩ := hrel
    by_cases hlt : j < n
    · rcases HC.out.2 with h0 | ⟨b, off, e0, l0, d0⟩
      · omega
      subst e0
      obtain ⟨o, ho⟩ : ∃ o, o = rs.getD j G0 := ⟨_, rfl⟩
      obtain ⟨y0, y1⟩ := d0 j hlt
      rw [← ho] at y0 y1
      have x0 := (hbel.cell (p := ⟨b, off + j * 2, none⟩) l0).trans y0
      have x1 := (hbel.cell (p := ⟨b, off + j * 2 + 1, none⟩) l0).trans y1
      have hmem := ref_mem HN.out hlt ho
      have HS : Hid (o = rs.getD j G0) := ho
      obtain ⟨op, oq⟩ := o
      simp only at x0 x1
      have hca := HCA.out wr op oq hbel hmem
      obtain ⟨mb, hmb⟩ : ∃ b, b = pd (op, oq) := ⟨_, rfl⟩
      rw [← hmb] at hca
      have HMB : Hid (mb = pd (op, oq)) := hmb
      have hki : (j : Int) < (n : Int) := by omega
      clear d0 ho hmb y0 y1 hmem
      cases mb
      · have HFI : Hid (rs.all pd = false) := all_not HN.out hlt (by rw [← HS.out]; exact HMB.out.symm)
        go_wp2_with (first | (go_at_call 76; (with_reducible refine hca.mono ?_); clear hca; rintro e w2 ⟨rfl, hb2⟩))
        go_ret
        exact ⟨_, rfl, fun e => (by rw [HFI.out] at e; cases e), fun _ => (by omega), hbel.trans (hb2.mono hbel.size)⟩
      · have HIN : Hid (∀ t, t < j + 1 → pd (rs.getD t G0) = true) := fun t ht => by
          rcases Nat.lt_or_ge t j with h1 | h1
          · exact HI.out t h1
          · obtain rfl : t = j := by omega
            rw [← HS.out]; exact HMB.out.symm
        go_wp2_with (first | (go_at_call 76; (with_reducible refine hca.mono ?_); clear hca; rintro e w2 ⟨rfl, hb2⟩))
        go_roundw
        case rel => exact ⟨j + 1, by omega, by go_num, hbel.trans (hb2.mono hbel.size), HIN⟩
        case measure => simp [intOf]; omega
    · have HFI : Hid (rs.all pd = true) := all_get HN.out fun t ht => HI.out t (by omega)
      have hki : ¬ (j : Int) < (n : Int) := by omega
      go_wp2
      go_ret
      exact ⟨_, rfl, fun _ => rfl, fun e => (by rw [HFI.out] at e; cases e), hbel⟩

theorem containsLacks_any (n c B lo : Nat) (a : Option Addr) (rs : List (Int × Int)) (ps : List (Co × Value)) (w : World) (hn : n ≤ 1000) (hG : GAt w a n rs) (hr : ∀ r ∈ rs, refB r = true) (hP : Pu w lo B ps) :
    Calls Tryz.prog 95 #[.slice a n c, .func (.func 76) #[.map (some B)] #[]] w fun e w' => e = .returned (.bool (!rs.all (hasC (ps.map (·.1))))) ∧ Below w.heap.size w w' := by
  have hI := idxLacks_any n c B lo a rs ps w hn hG hr hP
  obtain ⟨b, hb⟩ : ∃ b, b = rs.all (hasC (ps.map (·.1))) := ⟨_, rfl⟩
  rw [← hb] at hI ⊢
  clear hb hG hr hP
  cases b
  · have hI' : Calls Tryz.prog 109 #[.slice a n c, .func (.func 76) #[.map (some B)] #[]] w fun e w' => ∃ i : Int, e = .returned (.int .i64 i) ∧ 0 ≤ i ∧ Below w.heap.size w w' := hI.mono fun e w' ⟨i, h1, _, h3, h4⟩ => ⟨i, h1, h3 rfl, h4⟩
    clear hI
    go_enter Tryz.func95, Tryz.ntmps95
    go_wp2_with (first | (go_at_call 109; (with_reducible refine hI'.mono ?_); clear hI'; rintro e w2 ⟨i, rfl, hi, hb2⟩; have hge : decide (i ≥ 0) = true := decide_eq_true hi))
    go_ret
    exact ⟨by simp, hb2⟩
  · have hI' : Calls Tryz.prog 109 #[.slice a n c, .func (.func 76) #[.map (some B)] #[]] w fun e w' => e = .returned (.int .i64 (-1)) ∧ Below w.heap.size w w' := hI.mono fun e w' ⟨i, h1, h2, _, h4⟩ => by rw [h2 rfl] at h1; exact ⟨h1, h4⟩
    clear hI
    go_enter Tryz.func95, Tryz.ntmps95
    go_wp2_with (first | (go_at_call 109; (with_reducible refine hI'.mono ?_); clear hI'; rintro e w2 ⟨rfl, hb2⟩))
    go_ret
    exact ⟨rfl, hb2⟩

set_option maxHeartbeats 1000000 in
theorem isJust_any (n c B lo : Nat) (a : Option Addr) (rs : List (Int × Int)) (ps : List (Co × Value)) (w : World) (hn : n ≤ 1000) (_hps : ps.length ≤ 1000) (hG : GAt w a n rs) (hr : ∀ r ∈ rs, refB r = true) (hP : Pu w lo B ps) :
    Calls Tryz.prog 74 #[.map (some B), .slice a n c] w fun e w' => e = .returned (.bool (justB (ps.map (·.1)) rs)) ∧ Below w.heap.size w w' := by
  have hK := containsLacks_any n c B lo a rs ps w hn hG hr hP
  have hlen := hP.len
  obtain ⟨b, hb⟩ : ∃ b, b = rs.all (hasC (ps.map (·.1))) := ⟨_, rfl⟩
  obtain ⟨m, hm⟩ : ∃ m, m = ps.length := ⟨_, rfl⟩
  have hj : justB (ps.map (·.1)) rs = (decide (m = n) && b) := by unfold justB; rw [List.length_map, ← hm, hG.1, ← hb]
  rw [hj]
  rw [← hb] at hK
  rw [← hm] at hlen
  clear hb hG hr hP hj hm
  by_cases e : m = n
  · have e1 : ((m : Int) == (n : Int)) = true := by simp [e]
    have HE : Hid (m = n) := e
    clear e
    go_enter Tryz.func74, Tryz.ntmps74
    go_wp2_with (first | (go_at_call 95; (with_reducible refine hK.mono ?_); clear hK; rintro e w2 ⟨rfl, hb2⟩))
    go_ret
    exact ⟨by rw [decide_eq_true HE.out]; simp, hb2⟩
  · have e1 : ((m : Int) == (n : Int)) = false := by simpa using (fun h => e (by omega))
    have HE : Hid (¬ m = n) := e
    clear e hK
    go_enter Tryz.func74, Tryz.ntmps74
    go_wp2
    go_ret
    exact ⟨by rw [decide_eq_false HE.out]; rfl, Below.refl _ _⟩

end Go.Proofs.YtedchnkeigagcaaGreat

namespace Go.Proofs.YtedchnkeigagcaaGreat
open Go.RowKit Go.Maps Go.WideMaps

theorem ranges_iter {P : Program} {k : TypeId} {R : Value → Option (DataW Value × List MemPlace)} {w : World} {b r n : Nat} {D : DataW Value} {left : Lit → Bool} {cnt : Nat} (h : w.ranges P k R b r n D left cnt) : ∃ m s q c, w.heap[r]? = some (.mapIter m s q c) := by
  obtain ⟨es, clock, since, seen, c0, _, _, _, _, hr, _⟩ := h
  exact ⟨_, _, _, _, hr⟩
theorem Pu.iter {w w' : World} {lo B r : Nat} {ps : List (Co × Value)} (h : Pu w lo B ps) (hr : ∃ m s q c, w.heap[r]? = some (.mapIter m s q c)) (hg : w.grownBy w' (some r)) : Pu w' lo B ps := by
  obtain ⟨m, s, q, c, hr⟩ := hr
  obtain ⟨D, ho, hsz, hat⟩ := h.map
  have hB : B ≠ r := fun e => by
    obtain ⟨es, clock, hb, _⟩ := ho
    rw [e, hr] at hb
    cases hb
  refine ⟨⟨D, ho.kept hg (by simpa using hB), hsz, hat⟩, fun x hx => (h.rows x hx).kept hg (.inr fun e => ?_), h.base, h.apart, h.refs, h.wfs⟩
  rcases (h.rows x hx).2 with ⟨e1, _⟩ | ⟨g, cp, cur, e1, _, hh, _⟩
  · rw [e1] at e; cases e
  · rw [e1] at e
    have : g = r := by simpa [Value.ownBlock] using e
    rw [this, hr] at hh
    cases hh
theorem Pu.told {w : World} {lo B : Nat} {ps : List (Co × Value)} (hP : Pu w lo B ps) : ∃ D : DataW Value, w.ownsMap Tryz.prog 66 Rv B ps.length D ∧ Told D ps := by
  obtain ⟨D, hown, hsz, hat0⟩ := hP.map
  exact ⟨D, hown, hsz, hat0, hP.refs, hP.wfs, fun x hx => by
    rcases (hP.rows x hx).2 with ⟨e1, _⟩ | ⟨g, cp, cur, e1, _⟩
    · exact ⟨none, 0, 0, e1⟩
    · exact ⟨_, _, _, e1⟩⟩

def ofP (ss : List SC) (id : Int) : List (Co × Value) := (ss.map Subtype.val).filter fun x => decide (x.1.p = id)
theorem ofP_yes {ss : List SC} {z : SC} {id : Int} (h : z.1.1.p = id) : ofP (ss ++ [z]) id = ofP ss id ++ [z.1] := by
  unfold ofP
  rw [List.map_append, List.filter_append]
  simp [h]
theorem ofP_no {ss : List SC} {z : SC} {id : Int} (h : ¬ z.1.1.p = id) : ofP (ss ++ [z]) id = ofP ss id := by
  unfold ofP
  rw [List.map_append, List.filter_append]
  simp [h]
theorem ofP_mem {ps : List (Co × Value)} {left : Lit → Bool} {ss : List SC} {id : Int} (h : ComeC ps left ss) : ∀ x ∈ ofP ss id, x ∈ ps := fun x hx => by
  obtain ⟨y, hy, rfl⟩ := List.mem_map.1 (List.mem_filter.1 hx).1
  exact h.1 y hy
theorem ofP_new {ps : List (Co × Value)} {left : Lit → Bool} {ss : List SC} {id : Int} (h : ComeC ps left ss) (_hrefs : ps.Pairwise fun x y => refOf x ≠ refOf y) {z : SC} {kl : Lit} (hz : z.1 ∈ ps) (hk : keyOf Tryz.prog 66 (encR (refOf z.1)) = some kl) (hl : left kl = true) : ∀ x ∈ ofP ss id, x ≠ z.1 := fun x hx e => by
  obtain ⟨y, hy, rfl⟩ := List.mem_map.1 (List.mem_filter.1 hx).1
  exact (h.2.2 z.1 hz kl hk).1 hl ⟨y, hy, e⟩
theorem ofP_find {ps : List (Co × Value)} {left : Lit → Bool} {ss : List SC} {id : Int} (h : ComeC ps left ss) (hrefs : ps.Pairwise fun x y => refOf x ≠ refOf y) {z : SC} {kl : Lit} (hz : z.1 ∈ ps) (hk : keyOf Tryz.prog 66 (encR (refOf z.1)) = some kl) (hl : left kl = true) : findP (ofP ss id) (refOf z.1) = none := by
  unfold findP
  rw [List.find?_eq_none]
  intro x hx e
  exact ofP_new h hrefs hz hk hl x hx (refs_inj hrefs x (ofP_mem h x hx) z.1 hz (by simpa using e))
theorem ofP_length {ps : List (Co × Value)} {left : Lit → Bool} {ss : List SC} {id : Int} (h : ComeC ps left ss) : (ofP ss id).length ≤ ps.length := by
  have h1 : (ofP ss id).length ≤ ss.length := by
    unfold ofP
    refine Nat.le_trans (List.length_filter_le _ _) (by simp)
  have h2 : ((ss.map Subtype.val).map refOf).Nodup := by
    unfold List.Nodup
    rw [List.pairwise_map, List.pairwise_map]
    exact h.2.1
  have h3 := sub_length ((ss.map Subtype.val).map refOf) (ps.map refOf) h2 fun r hr => by
    obtain ⟨x, hx, rfl⟩ := List.mem_map.1 hr
    obtain ⟨y, hy, rfl⟩ := List.mem_map.1 hx
    exact List.mem_map.2 ⟨y.1, h.1 y hy, rfl⟩
  simp at h3
  omega
theorem ofP_all {ps : List (Co × Value)} {ss : List SC} {id : Int} {cs : List Co} (h : AllC ps ss) (hmem : ∀ c, c ∈ cs ↔ c ∈ ps.map (·.1)) : ∀ c, c ∈ ofC cs id ↔ c ∈ (ofP ss id).map (·.1) := fun c => by
  unfold ofC ofP
  rw [List.mem_filter, hmem c, List.mem_map, List.mem_map]
  constructor
  · rintro ⟨⟨x, hx, rfl⟩, h2⟩
    obtain ⟨y, hy, rfl⟩ := h.2.2 x hx
    exact ⟨y.1, List.mem_filter.2 ⟨List.mem_map.2 ⟨y, hy, rfl⟩, h2⟩, rfl⟩
  · rintro ⟨x, hx, rfl⟩
    obtain ⟨h1, h2⟩ := List.mem_filter.1 hx
    obtain ⟨y, hy, rfl⟩ := List.mem_map.1 h1
    exact ⟨⟨y.1, h.1 y hy, rfl⟩, h2⟩

/-- In the midst of it. -/
structure MadeM (w wr : World) (lo B : Nat) (ps : List (Co × Value)) (id : Int) (left : Lit → Bool) (ss : List SC) : Prop where
  come : ComeC ps left ss
  pu : Pu wr lo w.heap.size (ofP ss id)
  old : Below w.heap.size w wr

theorem made_store {w w2 : World} {lo B : Nat} {ps : List (Co × Value)} {id : Int} {left : Lit → Bool} {ss : List SC} {z : SC} {kl : Lit} (hP : Pu w lo B ps) (hps : ps.length ≤ 1000) (h : MadeM w w2 lo B ps id left ss) (hz : z.1 ∈ ps) (hk : keyOf Tryz.prog 66 (encR (refOf z.1)) = some kl) (hl : left kl = true) (hid : z.1.1.p = id) :
    ∃ w', (Instr.mapUpdate 77 (.map (some w.heap.size)) (encR (refOf z.1)) (coV z.1)).run Tryz.prog w2 = .ok () w' ∧ Hid (MadeM w w' lo B ps id (fun t => left t && !t.sameKey kl) (ss ++ [z])) ∧ w2.grownBy w' (some w.heap.size) := by
  have hPw := hP.below h.old
  obtain ⟨w', h1, h2, h3⟩ := h.pu.store (x := z.1) (hP.wfs z.1 hz).1 (hP.wfs z.1 hz).2 (ofP_find h.come hP.refs hz hk hl) (Nat.le_trans (ofP_length h.come) hps) (hPw.rows z.1 hz) (fun y hy b hb =>
    pair_of (R := fun x y : Co × Value => ∀ b, x.2.ownBlock = some b → y.2.ownBlock ≠ some b) (fun x y h b h1 h2 => h b h2 h1) hP.apart y (ofP_mem h.come y hy) z.1 hz (ofP_new h.come hP.refs hz hk hl y hy) b hb)
  refine ⟨w', h1, ⟨come_step h.come hP.refs hz hk hl, ?_, h.old.grown h3 h.old.size (fun k e => by cases e; exact Nat.le_refl _)⟩, h3⟩
  rw [ofP_yes hid]
  exact h2

set_option maxRecDepth 100000 in
set_option maxHeartbeats 2000000 in
theorem madeBy_any (B lo : Nat) (id : Int) (ps : List (Co × Value)) (cs : List Co) (w : World) (hP : Pu w lo B ps) (hlo : lo ≤ w.heap.size) (hps : ps.length ≤ 1000) (hri : RiseC cs) (hmem : ∀ c, c ∈ cs ↔ c ∈ ps.map (·.1)) :
    Calls Tryz.prog 56 #[.map (some B), .int .i64 id] w fun e w' => ∃ v, e = .returned v ∧ Hid ((∃ kv, COwn w' lo w'.heap.size v (ofC cs id).length (fun j => (ofC cs id).getD j C0) kv) ∧ Below w.heap.size w w') := by
  have hmm := @run_makeMap Tryz.prog
  have hbm : Below w.heap.size w (w.alloc (.map #[] 0)) := below_box _
  obtain ⟨D, hown, hT⟩ := (hP.below hbm).told
  have HT : Hid (Told D ps) := hT
  have HP : Hid (Pu w lo B ps) := hP
  have HM0 : Hid (MadeM w (w.alloc (.map #[] 0)) lo B ps id (fun kl => Maps.has D kl) []) := ⟨come_start hT, Pu.made hlo, hbm⟩
  have HRI : Hid (RiseC (ofC cs id)) := hri.filter _
  have HME : Hid (∀ c, c ∈ cs ↔ c ∈ ps.map (·.1)) := hmem
  have hBl := hP.lt
  clear hP hT hri hmem hbm
  go_enter Tryz.func56, Tryz.ntmps56
  go_wp2_with (first
    | (at_range; refine wpList_range_own _ rfl _ 77 rfl 66 72 kR Tryz.underlying77 _ B ps.length _ rfl hown ?_; intro w0 hrg0 hg0 hs0; obtain ⟨rr, hrr⟩ : ∃ r, r = (w.alloc (.map #[] 0)).heap.size := ⟨_, rfl⟩; rw [← hrr] at hrg0 ⊢; have HRR : Hid (rr = w.heap.size + 1) := (by show rr = _; rw [hrr]; simp); clear hrr))
  go_frame
  have HM1 : Hid (MadeM w w0 lo B ps id (fun kl => Maps.has D kl) []) := by
    have h0 := HM0.out
    have hb0 : Below (w.alloc (.map #[] 0)).heap.size (w.alloc (.map #[] 0)) w0 := (Below.refl _ _).grown hg0 (Nat.le_refl _) (fun k e => by cases e)
    exact ⟨h0.come, h0.pu.below hb0, h0.old.trans (hb0.mono h0.old.size)⟩
  clear hg0 hs0 HM0 hown
  go_loopw [6] (fun _ wr => ∃ (left : Lit → Bool) (cnt : Nat) (ss : List SC), wr.ranges Tryz.prog 66 Rv B rr ps.length D left cnt ∧ Hid (MadeM w wr lo B ps id left ss)) (fun _ wr => wr.rangeLeft B rr)
  case atStart => exact ⟨_, _, [], hrg0, HM1.out⟩
  case round =>
    obtain ⟨left, cnt, ss, hrg, HM⟩ := hrel
    go_wp2_with (first
      | (at_next; refine wpList_next_ranges _ rfl _ rfl 66 kR Rv _root_.id _root_.id (fun key kl hk => ⟨key, rfl⟩) (fun v _ _ => ⟨v, rfl⟩) B rr ps.length _ _ _ rfl hrg ?_ ?_))
    · intro hc0 hl0
      have hA := come_all HM.out.come HT.out.wfs hl0
      have hco := coins_any w.heap.size lo (ofP ss id) (ofC cs id) wr HM.out.pu (Nat.le_trans hlo HM.out.old.size) (Nat.le_trans (ofP_length HM.out.come) hps) HRI.out (ofP_all hA HME.out)
      have HBW : Hid (Below w.heap.size w wr) := HM.out.old
      clear hA hrg HM hc0 hl0 hrg0
      go_wp2_with (first | (go_at_call 32; (with_reducible refine hco.mono ?_); clear hco; rintro e w5 ⟨v, rfl, HS⟩))
      go_ret
      exact ⟨v, rfl, HS.out.1, HBW.out.trans (HS.out.2.mono HBW.out.size)⟩
    · intro x c kl yd yp w2 cnt2 hkey hlk hv hat hrg2 hlt hg2 hs2 hen
      obtain rfl : yd = .held c := (Prod.mk.inj (show (DataW.held c, ([] : List MemPlace)) = (yd, yp) from Option.some.inj hv)).1.symm
      obtain ⟨z, hz, rfl, rfl, _, _⟩ := come_which HT.out (show keyOf Tryz.prog 66 x = some kl from hkey) hat
      have hkz : keyOf Tryz.prog 66 (encR (refOf z.1)) = some kl := hkey
      have HM2 : Hid (MadeM w w2 lo B ps id left ss) := ⟨HM.out.come, HM.out.pu.iter (ranges_iter hrg) hg2, HM.out.old.grown hg2 HM.out.old.size (fun k e => by cases e; have := HRR.out; omega)⟩
      have HR0 : Hid (wr.ranges Tryz.prog 66 Rv B rr ps.length D left cnt) := hrg
      obtain ⟨ua, un, uc, hu⟩ := z.2
      have hbx2 : ∀ o1 o2, Below w2.heap.size w2 ((w2.alloc o1).alloc o2) := fun o1 o2 => below_box2 _ _
      have HM4 : ∀ o1 o2, Hid (MadeM w ((w2.alloc o1).alloc o2) lo B ps id left ss) := fun o1 o2 => ⟨HM2.out.come, HM2.out.pu.below (hbx2 _ _), HM2.out.old.trans ((hbx2 _ _).mono HM2.out.old.size)⟩
      have hrg4 : ∀ o1 o2, ((w2.alloc o1).alloc o2).ranges Tryz.prog 66 Rv B rr ps.length D (fun s => left s && !s.sameKey kl) cnt2 := fun o1 o2 => (hrg2.alloc o1).alloc o2
      obtain ⟨e1, e2, _⟩ := blocks2 w2 (.cells #[.int .i64 z.1.1.p, .int .i64 z.1.1.q] 66) (.cells #[.int .i64 z.1.1.p, .int .i64 z.1.1.q, .int .i64 z.1.1.v, .slice ua un uc, .int .i64 z.1.1.x, .int .i64 z.1.1.y, .int .i64 z.1.1.h, .bool z.1.1.m] 72)
      obtain ⟨s0, s1⟩ := cells2 e1
      obtain ⟨⟨t0, t1, t2, t3, t4, t5, t6, t7⟩, _⟩ := cells8 e2
      by_cases hzt : z.1.1.p = id
      · obtain ⟨w5, hrun, HM5, hg5⟩ := made_store HP.out hps (HM4 (.cells #[.int .i64 z.1.1.p, .int .i64 z.1.1.q] 66) (.cells #[.int .i64 z.1.1.p, .int .i64 z.1.1.q, .int .i64 z.1.1.v, .slice ua un uc, .int .i64 z.1.1.x, .int .i64 z.1.1.y, .int .i64 z.1.1.h, .bool z.1.1.m] 72)).out hz hkz hlk hzt
        have HR5 : Hid (w5.ranges Tryz.prog 66 Rv B rr ps.length D (fun s => left s && !s.sameKey kl) cnt2) := (hrg4 _ _).kept hg5 (by simp; omega) (by have := HRR.out; simp; omega)
        have hzb : (z.1.1.p == id) = true := by simp [hzt]
        dsimp only [coV, encR, refOf, _root_.id] at hen hrun ⊢
        rw [hu] at hen hrun ⊢
        clear hs2 hkey hat hv hrg hrg2 HM HM2 HM4 hrg4 hbx2 hz hkz hg2 hg5 hu hzt e1 e2 hrg0 HM1
        go_wp2
        go_roundw
        case rel => exact ⟨_, cnt2, _, HR5.out, HM5.out⟩
        case measure => rw [HR5.out.left_eq, HR0.out.left_eq]; exact hlt
      · have HR5 : Hid (((w2.alloc (.cells #[.int .i64 z.1.1.p, .int .i64 z.1.1.q] 66)).alloc (.cells #[.int .i64 z.1.1.p, .int .i64 z.1.1.q, .int .i64 z.1.1.v, .slice ua un uc, .int .i64 z.1.1.x, .int .i64 z.1.1.y, .int .i64 z.1.1.h, .bool z.1.1.m] 72)).ranges Tryz.prog 66 Rv B rr ps.length D (fun s => left s && !s.sameKey kl) cnt2) := hrg4 _ _
        have HM5 : Hid (MadeM w ((w2.alloc (.cells #[.int .i64 z.1.1.p, .int .i64 z.1.1.q] 66)).alloc (.cells #[.int .i64 z.1.1.p, .int .i64 z.1.1.q, .int .i64 z.1.1.v, .slice ua un uc, .int .i64 z.1.1.x, .int .i64 z.1.1.y, .int .i64 z.1.1.h, .bool z.1.1.m] 72)) lo B ps id (fun t => left t && !t.sameKey kl) (ss ++ [z])) := by
          have h4 := (HM4 (.cells #[.int .i64 z.1.1.p, .int .i64 z.1.1.q] 66) (.cells #[.int .i64 z.1.1.p, .int .i64 z.1.1.q, .int .i64 z.1.1.v, .slice ua un uc, .int .i64 z.1.1.x, .int .i64 z.1.1.y, .int .i64 z.1.1.h, .bool z.1.1.m] 72)).out
          exact ⟨come_step h4.come HP.out.refs hz hkz hlk, by rw [ofP_no hzt]; exact h4.pu, h4.old⟩
        have hzb : (z.1.1.p == id) = false := by simpa using hzt
        dsimp only [coV, encR, refOf, _root_.id] at hen ⊢
        rw [hu] at hen ⊢
        clear hs2 hkey hat hv hrg hrg2 HM HM2 HM4 hrg4 hbx2 hz hkz hg2 hu hzt e1 e2 hrg0 HM1
        go_wp2
        go_roundw
        case rel => exact ⟨_, cnt2, _, HR5.out, HM5.out⟩
        case measure => rw [HR5.out.left_eq, HR0.out.left_eq]; exact hlt

end Go.Proofs.YtedchnkeigagcaaGreat

namespace Go.Proofs.YtedchnkeigagcaaGreat
open Go.RowKit Go.Maps Go.WideMaps

set_option maxHeartbeats 1000000 in
theorem sameOuts_any (v v' : Int) (a b : Option Addr) (n m c1 c2 : Nat) (l l' : List Int) (x x' y y' : Int) (w : World) (hl : n ≤ 1048576) (hl2 : m ≤ 1048576) (ha : IAt w a n l) (hb : IAt w b m l') :
    Calls Tryz.prog 96 #[.agg #[.int .i64 v, .slice a n c1, .int .i64 x, .int .i64 y], .agg #[.int .i64 v', .slice b m c2, .int .i64 x', .int .i64 y']] w fun e w' => e = .returned (.bool (sameO ⟨v, l, x, y⟩ ⟨v', l', x', y'⟩)) ∧ Below w.heap.size w w' := by
  have hbx : Below w.heap.size w ((w.alloc (.cells #[.int .i64 v, .slice a n c1, .int .i64 x, .int .i64 y] 70)).alloc (.cells #[.int .i64 v', .slice b m c2, .int .i64 x', .int .i64 y'] 70)) := below_box2 _ _
  have hS := iSameRules_any a b n m c1 c2 l l' x x' y y' ((w.alloc (.cells #[.int .i64 v, .slice a n c1, .int .i64 x, .int .i64 y] 70)).alloc (.cells #[.int .i64 v', .slice b m c2, .int .i64 x', .int .i64 y'] 70)) hl hl2 (ha.below hbx (Nat.le_refl _)) (hb.below hbx (Nat.le_refl _))
  have HBX : Hid (Below w.heap.size w ((w.alloc (.cells #[.int .i64 v, .slice a n c1, .int .i64 x, .int .i64 y] 70)).alloc (.cells #[.int .i64 v', .slice b m c2, .int .i64 x', .int .i64 y'] 70))) := hbx
  have hr : sameO ⟨v, l, x, y⟩ ⟨v', l', x', y'⟩ = (decide (v = v') && sameR l l' x x' y y') := rfl
  obtain ⟨q, hq⟩ : ∃ q, q = sameR l l' x x' y y' := ⟨_, rfl⟩
  rw [hr, ← hq]
  rw [← hq] at hS
  clear hr hq hbx ha hb
  by_cases hv : v = v'
  · subst hv
    have e0 : (decide (v = v) && q) = q := by simp
    rw [e0]
    clear e0
    go_enter Tryz.func96, Tryz.ntmps96
    go_wp2_with (go_at_call 110; refine hS.mono ?_; rintro e w2 ⟨rfl, hb2⟩)
    go_ret
    exact ⟨rfl, HBX.out.trans (hb2.mono (by simp; omega))⟩
  · have e0 : (decide (v = v') && q) = false := by simp [hv]
    have hvb : (v == v') = false := by simpa using hv
    rw [e0]
    clear e0 hS
    go_enter Tryz.func96, Tryz.ntmps96
    go_wp2
    go_ret
    exact ⟨rfl, HBX.out⟩

end Go.Proofs.YtedchnkeigagcaaGreat

namespace Go.Proofs.YtedchnkeigagcaaGreat
open Go.RowKit Go.Maps Go.WideMaps

end Go.Proofs.YtedchnkeigagcaaGreat

namespace Go.Proofs.YtedchnkeigagcaaGreat
open Go.RowKit Go.Maps Go.WideMaps Go.Sort

theorem madeB_len {ms : List Co} {os : List Ou} (h : ¬ ms.length = os.length) : madeB ms os = false := by unfold madeB; rw [decide_eq_false h]; rfl
theorem madeB_yes {ms : List Co} {os : List Ou} {n : Nat} (hn : ms.length = n) (hm : os.length = n) (h : ∀ t, t < n → placeB (ms.getD t C0) (os.getD t O0) t = true) : madeB ms os = true := by
  unfold madeB
  rw [decide_eq_true (by omega), Bool.true_and, List.all_eq_true]
  exact fun t ht => h t (by have := List.mem_range.1 ht; omega)
theorem madeB_no {ms : List Co} {os : List Ou} {n t : Nat} (hn : ms.length = n) (ht : t < n) (h : placeB (ms.getD t C0) (os.getD t O0) t = false) : madeB ms os = false := by
  unfold madeB
  rw [Bool.and_eq_false_iff]
  right
  rw [List.all_eq_false]
  exact ⟨t, List.mem_range.2 (by omega), by rw [h]; exact Bool.false_ne_true⟩

set_option maxRecDepth 20000 in
set_option maxHeartbeats 4000000 in
theorem areMadeOf_any (n c m d : Nat) (a oa : Option Addr) (ms : List Co) (os : List Ou) (w : World) (hn : n ≤ 1048576) (hm : m ≤ 1048576) (hk : ∀ j, j < n → (ms.getD j C0).l.length ≤ 1048576) (hk2 : ∀ j, j < m → (os.getD j O0).l.length ≤ 1048576) (hC : CAt w a n ms) (hO : OAt w oa m os) :
    Calls Tryz.prog 75 #[.slice a n c, .slice oa m d] w fun e w' => e = .returned (.bool (madeB ms os)) ∧ Below w.heap.size w w' := by
  have hmix : Tryz.prog.follows .mixedOrders = true := by kernel_rfl
  have HC : Hid (CAt w a n ms) := hC
  have HN : Hid (ms.length = n) := hC.1
  have HO : Hid (OAt w oa m os) := hO
  have HM : Hid (os.length = m) := hO.1
  have HK : Hid (∀ j, j < n → (ms.getD j C0).l.length ≤ 1048576) := hk
  have HK2 : Hid (∀ j, j < m → (os.getD j O0).l.length ≤ 1048576) := hk2
  clear hC hO hk hk2
  by_cases hnm : n = m
  · subst hnm
    go_enter Tryz.func75, Tryz.ntmps75
    go_wp2
    go_loopw [14] (fun i wr => ∃ j : Nat, j ≤ n ∧ i = .int .i64 j ∧ Below w.heap.size w wr ∧ Hid (∀ t, t < j → placeB (ms.getD t C0) (os.getD t O0) t = true)) (fun i _ => n - (intOf i).toNat)
    case atStart => exact ⟨0, Nat.zero_le _, rfl, Below.refl _ _, fun t ht => by omega⟩
    case round =>
      obtain ⟨j, hj, rfl, hbel, HI⟩ := hrel
      by_cases hlt : j < n
      · rcases HC.out.2 with h0 | ⟨b, off, e0, l0, d0⟩
        · omega
        subst e0
        rcases HO.out.2 with h0 | ⟨b2, off2, e0, l2, d2⟩
        · omega
        subst e0
        obtain ⟨o, ho⟩ : ∃ o, o = ms.getD j C0 := ⟨_, rfl⟩
        obtain ⟨u, hu⟩ : ∃ u, u = os.getD j O0 := ⟨_, rfl⟩
        obtain ⟨ka, kc, p0, p4, p5⟩ := d0 j hlt
        rw [← ho] at p0 p4 p5
        obtain ⟨va, vn, vc, r0, r1, r2, r3, r4, r5⟩ := d2 j hlt
        rw [← hu] at r0 r2 r3 r5
        have hl1 := HK.out j hlt
        have hl2 := HK2.out j hlt
        rw [← ho] at hl1
        rw [← hu, r5.1] at hl2
        have HPL : Hid (∀ t, t < j + 1 → t ≠ j → placeB (ms.getD t C0) (os.getD t O0) t = true) := fun t ht hne => HI.out t (by omega)
        obtain ⟨op, oq, ov, ol, ox, oy, oh, om⟩ := o
        obtain ⟨uv, ul, ux, uy⟩ := u
        have HPB : Hid (placeB (ms.getD j C0) (os.getD j O0) j = (decide (oq = (j : Int)) && sameO ⟨ov, ol, ox, oy⟩ ⟨uv, ul, ux, uy⟩)) := by show _ = _; rw [← ho, ← hu]; rfl
        simp only at p0 p4 p5 r0 r2 r3 r5 hl1 hl2
        obtain ⟨x0, x1, x2, x3, x4, x5, x6, x7⟩ := p0.below hbel l0
        simp only at x0 x1 x2 x3 x4 x5 x6 x7
        have hbx : Below wr.heap.size wr (wr.alloc (.cells #[.int .i64 op, .int .i64 oq, .int .i64 ov, .slice ka ol.length kc, .int .i64 ox, .int .i64 oy, .int .i64 oh, .bool om] 72)) := below_box _
        have HBX : Hid (Below w.heap.size w (wr.alloc (.cells #[.int .i64 op, .int .i64 oq, .int .i64 ov, .slice ka ol.length kc, .int .i64 ox, .int .i64 oy, .int .i64 oh, .bool om] 72))) := hbel.trans (hbx.mono hbel.size)
        have hX := heap_alloc_new wr (.cells #[.int .i64 op, .int .i64 oq, .int .i64 ov, .slice ka ol.length kc, .int .i64 ox, .int .i64 oy, .int .i64 oh, .bool om] 72)
        obtain ⟨⟨t0, t1, t2, t3, t4, t5, t6, t7⟩, _⟩ := cells8 hX
        have z0 := cell_regrown ((HBX.out.cell (p := ⟨b2, off2 + j * 4, none⟩) l2).trans r0)
        have z1 := cell_regrown ((HBX.out.cell (p := ⟨b2, off2 + j * 4 + 1, none⟩) l2).trans r1)
        have z2 := cell_regrown ((HBX.out.cell (p := ⟨b2, off2 + j * 4 + 2, none⟩) l2).trans r2)
        have z3 := cell_regrown ((HBX.out.cell (p := ⟨b2, off2 + j * 4 + 3, none⟩) l2).trans r3)
        have s1 := cell_regrown t1
        have s2 := cell_regrown t2
        have s3 := cell_regrown t3
        have s4 := cell_regrown t4
        have s5 := cell_regrown t5
        obtain ⟨sb, hsb⟩ : ∃ s, s = sameO ⟨ov, ol, ox, oy⟩ ⟨uv, ul, ux, uy⟩ := ⟨_, rfl⟩
        have HSB : Hid (sb = sameO ⟨ov, ol, ox, oy⟩ ⟨uv, ul, ux, uy⟩) := hsb
        have cS : ∀ dd os, Calls Tryz.prog 96 #[.agg #[.int .i64 ov, .slice ka ol.length kc, .int .i64 ox, .int .i64 oy], .agg #[.int .i64 uv, .slice va vn vc, .int .i64 ux, .int .i64 uy]] (grow (redrawn (wr.alloc (.cells #[.int .i64 op, .int .i64 oq, .int .i64 ov, .slice ka ol.length kc, .int .i64 ox, .int .i64 oy, .int .i64 oh, .bool om] 72)) dd) os) fun e w'' => e = .returned (.bool sb) ∧ ∃ p : Regrown, w'' = grow (redrawn (wr.alloc (.cells #[.int .i64 op, .int .i64 oq, .int .i64 ov, .slice ka ol.length kc, .int .i64 ox, .int .i64 oy, .int .i64 oh, .bool om] 72)) p.d) p.os := fun dd os => Calls.regrown_of (by
          have hb := below_regrown (wr.alloc (.cells #[.int .i64 op, .int .i64 oq, .int .i64 ov, .slice ka ol.length kc, .int .i64 ox, .int .i64 oy, .int .i64 oh, .bool om] 72)) dd os
          have := sameOuts_any ov uv ka va ol.length vn kc vc ol ul ox ux oy uy (grow (redrawn (wr.alloc (.cells #[.int .i64 op, .int .i64 oq, .int .i64 ov, .slice ka ol.length kc, .int .i64 ox, .int .i64 oy, .int .i64 oh, .bool om] 72)) dd) os) hl1 hl2 ((p5.below HBX.out (Nat.le_refl _)).below hb (Nat.le_refl _)) ((r5.below HBX.out (Nat.le_refl _)).below hb (Nat.le_refl _))
          rw [← hsb] at this
          exact this)
        have hki : (j : Int) < (n : Int) := by omega
        have hkz : ¬ (j : Int) < 0 := by omega
        clear ho hu d0 d2 p0 p4 p5 r0 r1 r2 r3 r4 r5 hsb hbx hX t0 t1 t2 t3 t4 t5 t6 t7
        by_cases hq : oq = (j : Int)
        · have hqb : (oq != (j : Int)) = false := by simp [hq]
          cases sb
          · have HFI : Hid (madeB ms os = false) := madeB_no HN.out hlt (by rw [HPB.out, ← HSB.out]; simp)
            clear hq
            go_wp2_with fail
            refine wp_region_quiet_below hmix (by kernel_rfl) ?_
            repeat (go_big_quiet_step (first | exact cS _ _))
            refine wpQuiet_nil ?_
            intro _ hw'
            obtain ⟨⟨dq, osq⟩, hw''⟩ := hw'
            subst hw''
            go_wp2
            go_ret
            exact ⟨by rw [HFI.out]; rfl, HBX.out.trans ((below_regrown (wr.alloc (.cells #[.int .i64 op, .int .i64 oq, .int .i64 ov, .slice ka ol.length kc, .int .i64 ox, .int .i64 oy, .int .i64 oh, .bool om] 72)) dq osq).mono HBX.out.size)⟩
          · have HIN : Hid (∀ t, t < j + 1 → placeB (ms.getD t C0) (os.getD t O0) t = true) := fun t ht => by
              by_cases e : t = j
              · subst e; rw [HPB.out, ← HSB.out, decide_eq_true hq]; rfl
              · exact HPL.out t ht e
            clear hq
            go_wp2_with fail
            refine wp_region_quiet_below hmix (by kernel_rfl) ?_
            repeat (go_big_quiet_step (first | exact cS _ _))
            refine wpQuiet_nil ?_
            intro _ hw'
            obtain ⟨⟨dq, osq⟩, hw''⟩ := hw'
            subst hw''
            go_wp2
            go_roundw
            case rel => exact ⟨j + 1, by omega, by go_num, HBX.out.trans ((below_regrown (wr.alloc (.cells #[.int .i64 op, .int .i64 oq, .int .i64 ov, .slice ka ol.length kc, .int .i64 ox, .int .i64 oy, .int .i64 oh, .bool om] 72)) dq osq).mono HBX.out.size), HIN⟩
            case measure => simp [intOf]; omega
        · have hqb : (oq != (j : Int)) = true := by simpa using hq
          have HFI : Hid (madeB ms os = false) := madeB_no HN.out hlt (by rw [HPB.out, decide_eq_false hq]; rfl)
          clear hq
          go_wp2_with fail
          refine wp_region_quiet_below hmix (by kernel_rfl) ?_
          repeat (go_big_quiet_step (first | exact cS _ _))
          refine wpQuiet_nil ?_
          intro _ hw'
          obtain ⟨⟨dq, osq⟩, hw''⟩ := hw'
          subst hw''
          go_wp2
          go_ret
          exact ⟨by rw [HFI.out]; rfl, HBX.out.trans ((below_regrown (wr.alloc (.cells #[.int .i64 op, .int .i64 oq, .int .i64 ov, .slice ka ol.length kc, .int .i64 ox, .int .i64 oy, .int .i64 oh, .bool om] 72)) dq osq).mono HBX.out.size)⟩
      · have HFI : Hid (madeB ms os = true) := madeB_yes HN.out HM.out fun t ht => HI.out t (by omega)
        have hki : ¬ (j : Int) < (n : Int) := by omega
        go_wp2
        go_ret
        exact ⟨by rw [HFI.out]; rfl, hbel⟩
  · have HFI : Hid (madeB ms os = false) := madeB_len (by rw [HN.out, HM.out]; exact hnm)
    have hni : ((n : Int) != (m : Int)) = true := by simp; omega
    go_enter Tryz.func75, Tryz.ntmps75
    go_wp2
    go_ret
    exact ⟨by rw [HFI.out]; rfl, Below.refl _ _⟩

end Go.Proofs.YtedchnkeigagcaaGreat

namespace Go.Proofs.YtedchnkeigagcaaGreat
open Go.RowKit Go.Maps Go.WideMaps

def undoF (cs : List Co) (k f : Int) (rs : List (Int × Int)) (os : List Ou) (id : Int) (sp : List Co) : Int :=
  if txR k f rs os ≠ 0 then txR k f rs os else if inB id 1 60 = false then 3 else if justB sp rs = false then 1 else if madeB (ofC cs id) os = false then 4
  else if rs.any (hasC cs) = true then 7 else if 40 < (offC cs id).length + sp.length then 2 else 0
theorem undoR_eq (cs : List Co) (k f : Int) (rs : List (Int × Int)) (os : List Ou) (id : Int) (sp : List Co) : undoR cs k f rs os id sp =
    if coinsR cs ≠ 0 then (coinsR cs, []) else if coinsR sp ≠ 0 then (coinsR sp, []) else if undoF cs k f rs os id sp ≠ 0 then (undoF cs k f rs os id sp, []) else (0, addCs (offC cs id) sp) := by
  unfold undoR undoF
  by_cases h1 : coinsR cs ≠ 0
  · rw [if_pos h1, if_pos h1]
  rw [if_neg h1, if_neg h1]
  by_cases h2 : coinsR sp ≠ 0
  · rw [if_pos h2, if_pos h2]
  rw [if_neg h2, if_neg h2]
  by_cases h3 : txR k f rs os ≠ 0
  · rw [if_pos h3, if_pos h3, if_pos h3]
  rw [if_neg h3, if_neg h3]
  by_cases h4 : inB id 1 60 = false
  · rw [if_pos h4, if_pos h4]; rfl
  rw [if_neg h4, if_neg h4]
  by_cases h5 : justB sp rs = false
  · rw [if_pos h5, if_pos h5]; rfl
  rw [if_neg h5, if_neg h5]
  by_cases h6 : madeB (ofC cs id) os = false
  · rw [if_pos h6, if_pos h6]; rfl
  rw [if_neg h6, if_neg h6]
  by_cases h7 : rs.any (hasC cs) = true
  · rw [if_pos h7, if_pos h7]; rfl
  rw [if_neg h7, if_neg h7]
  by_cases h8 : 40 < (offC cs id).length + sp.length
  · rw [if_pos h8, if_pos h8]; rfl
  rw [if_neg h8, if_neg h8]; rfl

theorem hasC_mem {a b : List Co} (h : ∀ c, c ∈ a ↔ c ∈ b) (r : Int × Int) : hasC a r = hasC b r := by
  rw [Bool.eq_iff_iff]
  unfold hasC
  rw [List.any_eq_true, List.any_eq_true]
  constructor
  · rintro ⟨c, h1, h2⟩; exact ⟨c, (h c).1 h1, h2⟩
  · rintro ⟨c, h1, h2⟩; exact ⟨c, (h c).2 h1, h2⟩
theorem len_mem {ps : List (Co × Value)} {cs : List Co} (hr : ps.Pairwise fun x y => refOf x ≠ refOf y) (hc : RiseC cs) (h : ∀ c, c ∈ cs ↔ c ∈ ps.map (·.1)) : ps.length = cs.length := by
  have h1 : (ps.map refOf).Nodup := by unfold List.Nodup; rw [List.pairwise_map]; exact hr
  have a := sub_length (ps.map refOf) (refsC cs) h1 fun r hr => by
    obtain ⟨x, hx, rfl⟩ := List.mem_map.1 hr
    exact List.mem_map.2 ⟨x.1, (h x.1).2 (List.mem_map.2 ⟨x, hx, rfl⟩), rfl⟩
  have b := sub_length (refsC cs) (ps.map refOf) (refs_nodup hc) fun r hr => by
    obtain ⟨c, hc, rfl⟩ := List.mem_map.1 hr
    obtain ⟨x, hx, rfl⟩ := List.mem_map.1 ((h c).1 hc)
    exact List.mem_map.2 ⟨x, hx, rfl⟩
  simp [refsC] at a b
  omega
theorem just_mem {a b : List Co} {rs : List (Int × Int)} (h : ∀ c, c ∈ a ↔ c ∈ b) (hl : a.length = b.length) : justB a rs = justB b rs := by
  unfold justB
  rw [hl]
  congr 1
  exact List.all_congr rfl fun r => hasC_mem h r
theorem any_yes {rs : List (Int × Int)} {n t : Nat} {f : Int × Int → Bool} (hn : rs.length = n) (ht : t < n) (h : f (rs.getD t G0) = true) : rs.any f = true := by
  rw [List.any_eq_true]
  exact ⟨_, ref_mem hn ht rfl, h⟩
theorem any_no {rs : List (Int × Int)} {n : Nat} {f : Int × Int → Bool} (hn : rs.length = n) (h : ∀ t, t < n → f (rs.getD t G0) = false) : rs.any f = false := by
  rw [List.any_eq_false]
  intro x hx
  obtain ⟨t, ht, rfl⟩ := List.getElem_of_mem hx
  have := h t (by omega)
  rw [List.getD, List.getElem?_eq_getElem ht] at this
  rw [show rs[t] = (some rs[t]).getD G0 from rfl, this]
  exact Bool.false_ne_true

/-- A purse in any order, and the coins that it holds, rising. -/
structure Holds (w : World) (lo B : Nat) (ps : List (Co × Value)) (cs : List Co) : Prop where
  pu : Pu w lo B ps
  rise : RiseC cs
  mem : ∀ c, c ∈ cs ↔ c ∈ ps.map (·.1)
  good : ∀ c ∈ cs, c.l.length ≤ 1048576
  few : cs.length ≤ 500
theorem Holds.len {w : World} {lo B : Nat} {ps : List (Co × Value)} {cs : List Co} (h : Holds w lo B ps cs) : ps.length = cs.length := len_mem h.pu.refs h.rise h.mem
theorem Holds.below {w w' : World} {lo B : Nat} {ps : List (Co × Value)} {cs : List Co} (h : Holds w lo B ps cs) (hb : Below w.heap.size w w') : Holds w' lo B ps cs := ⟨h.pu.below hb, h.rise, h.mem, h.good, h.few⟩

set_option maxRecDepth 20000 in
set_option maxHeartbeats 4000000 in
theorem undoFault_any (B lo B2 lo2 : Nat) (ps qs : List (Co × Value)) (cs sp : List Co) (n c m d : Nat) (ia oa : Option Addr) (k f : Int) (rs : List (Int × Int)) (os : List Ou) (id : Int) (w : World) (hH : Holds w lo B ps cs) (hS : Holds w lo2 B2 qs sp) (hlo : lo ≤ w.heap.size) (_hlo2 : lo2 ≤ w.heap.size)
    (hn : n ≤ 1048576) (hm : m ≤ 1048576) (hc1 : n ≤ c) (hc2 : c ≤ maxLen) (hk : ∀ j, j < m → (os.getD j O0).l.length ≤ 1048576) (h : TxAt w ia n oa m rs os) :
    Calls Tryz.prog 55 #[.map (some B), .agg #[.int .i64 k, .int .i64 f, .slice ia n c, .slice oa m d], .int .i64 id, .map (some B2)] w fun e w' => e = .returned (.int .i64 (undoF cs k f rs os id sp)) ∧ Below w.heap.size w w' := by
  have hbx : Below w.heap.size w (w.alloc (.cells #[.int .i64 k, .int .i64 f, .slice ia n c, .slice oa m d] 37)) := below_box _
  have hT := iTxFault_any n c m d ia oa k f rs os (w.alloc (.cells #[.int .i64 k, .int .i64 f, .slice ia n c, .slice oa m d] 37)) hn hm hc1 hc2 hk (h.below hbx (Nat.le_refl _))
  have B0 : Hid (TBx w (w.alloc (.cells #[.int .i64 k, .int .i64 f, .slice ia n c, .slice oa m d] 37)) k f ia n c oa m d 37) := TBx.start
  obtain ⟨p0, p1, p2, p3, _⟩ := cells4 B0.out.box
  obtain ⟨u, hu⟩ : ∃ u, u = undoF cs k f rs os id sp := ⟨_, rfl⟩
  rw [← hu]
  unfold undoF at hu
  obtain ⟨cd, hcd⟩ : ∃ u, u = txR k f rs os := ⟨_, rfl⟩
  rw [← hcd] at hT hu
  by_cases h1 : cd = 0
  · subst h1
    obtain ⟨hrb, hrd, hr4, ho4⟩ := tx_facts hcd.symm
    rw [if_neg (by simp)] at hu
    obtain ⟨kb, hkb⟩ : ∃ b, b = inB id 1 60 := ⟨_, rfl⟩
    have HId : ∀ v, Calls Tryz.prog 73 #[.int .i64 id] v fun e w' => e = .returned (.bool kb) ∧ w' = v := fun v => by rw [hkb]; exact isTxId_any _ v
    rw [← hkb] at hu
    have HG : Hid (GAt w ia n rs) := h.r
    have HN : Hid (rs.length = n) := h.r.1
    rw [h.r.1] at hr4
    cases kb
    · rw [if_pos rfl] at hu
      subst hu
      clear hcd h hk hkb hH hS hbx hrb hrd HG HN
      go_enter Tryz.func55, Tryz.ntmps55
      go_wp2_with (first
      | (go_at_call 72; (with_reducible refine hT.mono ?_); clear hT; rintro e w2 ⟨rfl, hb2⟩; have B2 : Hid (TBx w w2 k f ia n c oa m d 37) := B0.out.step hb2; obtain ⟨p0, p1, p2, p3, _⟩ := cells4 B2.out.box; clear hb2; have hI := HId w2)
      | (go_at_call 73; (with_reducible refine hI.mono ?_); clear hI; rintro e w3 ⟨rfl, hw3⟩; have hw4 := hw3.symm; subst hw4))
      go_ret
      exact ⟨rfl, B2.out.bel⟩
    · rw [if_neg (by simp)] at hu
      obtain ⟨jb, hjb⟩ : ∃ b, b = justB sp rs := ⟨_, rfl⟩
      have HJ : ∀ v, TBx w v k f ia n c oa m d 37 → Calls Tryz.prog 74 #[.map (some B2), .slice ia n c] v fun e w' => e = .returned (.bool jb) ∧ Below v.heap.size v w' := fun v hv => by
        rw [hjb, ← just_mem (a := qs.map (·.1)) (fun c => (hS.mem c).symm) (by rw [List.length_map]; exact hS.len)]
        exact isJust_any n c B2 lo2 ia rs qs v (by omega) (by have := hS.len; have := hS.few; omega) (h.r.below hv.bel (Nat.le_refl _)) hrb (hS.pu.below hv.bel)
      rw [← hjb] at hu
      cases jb
      · rw [if_pos rfl] at hu
        subst hu
        clear hcd h hk hkb hH hS hbx hrb hrd HG HN hjb
        go_enter Tryz.func55, Tryz.ntmps55
        go_wp2_with (first
      | (go_at_call 72; (with_reducible refine hT.mono ?_); clear hT; rintro e w2 ⟨rfl, hb2⟩; have B2 : Hid (TBx w w2 k f ia n c oa m d 37) := B0.out.step hb2; obtain ⟨p0, p1, p2, p3, _⟩ := cells4 B2.out.box; clear hb2; have hI := HId w2)
      | (go_at_call 73; (with_reducible refine hI.mono ?_); clear hI; rintro e w3 ⟨rfl, hw3⟩; have hw4 := hw3.symm; subst hw4; have hJ := HJ w2 B2.out)
      | (go_at_call 74; (with_reducible refine hJ.mono ?_); clear hJ; rintro e w4 ⟨rfl, hb4⟩; have B4 : Hid (TBx w w4 k f ia n c oa m d 37) := B2.out.step hb4; clear p0 p1 p2 p3; obtain ⟨p0, p1, p2, p3, _⟩ := cells4 B4.out.box; clear hb4))
        go_ret
        exact ⟨rfl, B4.out.bel⟩
      · rw [if_neg (by simp)] at hu
        obtain ⟨mb, hmb⟩ : ∃ b, b = madeB (ofC cs id) os := ⟨_, rfl⟩
        obtain ⟨ms, hms⟩ : ∃ l, l = ofC cs id := ⟨_, rfl⟩
        have HMd : ∀ v, TBx w v k f ia n c oa m d 37 → Calls Tryz.prog 56 #[.map (some B), .int .i64 id] v fun e w' => ∃ r, e = .returned r ∧ Hid ((∃ kv, COwn w' lo w'.heap.size r ms.length (fun j => ms.getD j C0) kv) ∧ Below v.heap.size v w') := fun v hv => by
          rw [hms]
          exact madeBy_any B lo id ps cs v (hH.pu.below hv.bel) (Nat.le_trans hlo hv.bel.size) (by have := hH.len; have := hH.few; omega) hH.rise hH.mem
        have hml : ∀ j, j < ms.length → (ms.getD j C0).l.length ≤ 1048576 := fun j hj => by
          have := getC_mem hj
          rw [hms] at this
          rw [hms]
          exact hH.good _ (List.mem_filter.1 this).1
        have hmle : ms.length ≤ ps.length := by rw [hH.len, hms]; exact List.length_filter_le _ _
        have HAr : ∀ v va vc, TBx w v k f ia n c oa m d 37 → (∃ kv, COwn v lo v.heap.size (.slice va ms.length vc) ms.length (fun j => ms.getD j C0) kv) → Calls Tryz.prog 75 #[.slice va ms.length vc, .slice oa m d] v fun e w' => e = .returned (.bool mb) ∧ Below v.heap.size v w' := fun v va vc hv ⟨kv, hO⟩ => by
          rw [hmb, ← hms]
          exact areMadeOf_any ms.length vc m d va oa ms os v (by have := hH.len; have := hH.few; omega) hm hml hk (own_at2 hO rfl hml) (h.o.below hv.bel (Nat.le_refl _))
        rw [← hmb] at hu
        cases mb
        · rw [if_pos rfl] at hu
          subst hu
          clear hcd h hk hkb hH hS hbx hrb hrd HG HN hjb hmb hml hms hmle
          go_enter Tryz.func55, Tryz.ntmps55
          go_wp2_with (first
      | (go_at_call 72; (with_reducible refine hT.mono ?_); clear hT; rintro e w2 ⟨rfl, hb2⟩; have B2 : Hid (TBx w w2 k f ia n c oa m d 37) := B0.out.step hb2; obtain ⟨p0, p1, p2, p3, _⟩ := cells4 B2.out.box; clear hb2; have hI := HId w2)
      | (go_at_call 73; (with_reducible refine hI.mono ?_); clear hI; rintro e w3 ⟨rfl, hw3⟩; have hw4 := hw3.symm; subst hw4; have hJ := HJ w2 B2.out)
      | (go_at_call 74; (with_reducible refine hJ.mono ?_); clear hJ; rintro e w4 ⟨rfl, hb4⟩; have B4 : Hid (TBx w w4 k f ia n c oa m d 37) := B2.out.step hb4; clear p0 p1 p2 p3; obtain ⟨p0, p1, p2, p3, _⟩ := cells4 B4.out.box; clear hb4; have hM := HMd w4 B4.out)
      | (go_at_call 56; (with_reducible refine hM.mono ?_); clear hM; rintro e w5 ⟨v, rfl, HS⟩; obtain ⟨va, vc, hv⟩ := own_slice3 HS.out.1; subst hv; have B5 : Hid (TBx w w5 k f ia n c oa m d 37) := B4.out.step HS.out.2; have hA := HAr w5 va vc B5.out HS.out.1; clear p0 p1 p2 p3; obtain ⟨p0, p1, p2, p3, _⟩ := cells4 B5.out.box)
      | (go_at_call 75; (with_reducible refine hA.mono ?_); clear hA; rintro e w6 ⟨rfl, hb6⟩; have B6 : Hid (TBx w w6 k f ia n c oa m d 37) := B5.out.step hb6; clear p0 p1 p2 p3; obtain ⟨p0, p1, p2, p3, _⟩ := cells4 B6.out.box; clear hb6))
          go_ret
          exact ⟨rfl, B6.out.bel⟩
        · rw [if_neg (by simp)] at hu
          have HU : Hid (u = if rs.any (hasC cs) = true then 7 else if 40 < (offC cs id).length + sp.length then 2 else 0) := hu
          obtain ⟨pd, hpd⟩ : ∃ q : Int × Int → Bool, q = hasC cs := ⟨_, rfl⟩
          have HPD : Hid (pd = hasC cs) := hpd
          have HCA : Hid (∀ v (p q : Int), Below w.heap.size w v → (p, q) ∈ rs → Calls Tryz.prog 76 #[.map (some B), .agg #[.int .i64 p, .int .i64 q]] v fun e w' => e = .returned (.bool (!pd (p, q))) ∧ Below v.heap.size v w') := fun v p q hv hr => by
            rw [hpd, hasC_mem hH.mem]
            exact lacks_any B lo p q ps v (hH.pu.below hv) (ref_wf (hrb _ hr)).1 (ref_wf (hrb _ hr)).2
          have HHP : Hid (Holds w lo B ps cs) := hH
          have HHS : Hid (Holds w lo2 B2 qs sp) := hS
          have HMS : Hid (ms.length + (offC cs id).length = cs.length) := by show _ = _; rw [hms]; exact of_off cs id
          have hfp : ps.length ≤ 500 := by have := hH.len; have := hH.few; omega
          have hfq : qs.length ≤ 500 := by have := hS.len; have := hS.few; omega
          clear hcd h hk hkb hH hS hbx hrb hrd hjb hmb hml hms hu hpd
          go_enter Tryz.func55, Tryz.ntmps55
          go_wp2_with (first
      | (go_at_call 72; (with_reducible refine hT.mono ?_); clear hT; rintro e w2 ⟨rfl, hb2⟩; have B2 : Hid (TBx w w2 k f ia n c oa m d 37) := B0.out.step hb2; obtain ⟨p0, p1, p2, p3, _⟩ := cells4 B2.out.box; clear hb2; have hI := HId w2)
      | (go_at_call 73; (with_reducible refine hI.mono ?_); clear hI; rintro e w3 ⟨rfl, hw3⟩; have hw4 := hw3.symm; subst hw4; have hJ := HJ w2 B2.out)
      | (go_at_call 74; (with_reducible refine hJ.mono ?_); clear hJ; rintro e w4 ⟨rfl, hb4⟩; have B4 : Hid (TBx w w4 k f ia n c oa m d 37) := B2.out.step hb4; clear p0 p1 p2 p3; obtain ⟨p0, p1, p2, p3, _⟩ := cells4 B4.out.box; clear hb4; have hM := HMd w4 B4.out)
      | (go_at_call 56; (with_reducible refine hM.mono ?_); clear hM; rintro e w5 ⟨v, rfl, HS⟩; obtain ⟨va, vc, hv⟩ := own_slice3 HS.out.1; subst hv; have B5 : Hid (TBx w w5 k f ia n c oa m d 37) := B4.out.step HS.out.2; have hA := HAr w5 va vc B5.out HS.out.1; clear p0 p1 p2 p3; obtain ⟨p0, p1, p2, p3, _⟩ := cells4 B5.out.box)
      | (go_at_call 75; (with_reducible refine hA.mono ?_); clear hA; rintro e w6 ⟨rfl, hb6⟩; have B6 : Hid (TBx w w6 k f ia n c oa m d 37) := B5.out.step hb6; clear p0 p1 p2 p3; obtain ⟨p0, p1, p2, p3, _⟩ := cells4 B6.out.box; clear hb6))
          go_loopw [37] (fun i wr => ∃ j : Nat, j ≤ n ∧ i = .int .i64 j ∧ Below w.heap.size w wr ∧ Hid (∀ t, t < j → pd (rs.getD t G0) = false)) (fun i _ => n - (intOf i).toNat)
          case atStart => exact ⟨0, Nat.zero_le _, rfl, B6.out.bel, fun t ht => by omega⟩
          case round =>
            obtain ⟨j, hj, rfl, hbel, HI⟩ := hrel
            clear p0 p1 p2 p3
            by_cases hlt : j < n
            · rcases HG.out.2 with h0 | ⟨b, off, e0, l0, d0⟩
              · omega
              subst e0
              obtain ⟨o, ho⟩ : ∃ o, o = rs.getD j G0 := ⟨_, rfl⟩
              obtain ⟨y0, y1⟩ := d0 j hlt
              rw [← ho] at y0 y1
              have x0 := (hbel.cell (p := ⟨b, off + j * 2, none⟩) l0).trans y0
              have x1 := (hbel.cell (p := ⟨b, off + j * 2 + 1, none⟩) l0).trans y1
              have hmem := ref_mem HN.out hlt ho
              have HS2 : Hid (o = rs.getD j G0) := ho
              obtain ⟨op, oq⟩ := o
              simp only at x0 x1
              have hb7 : Below w.heap.size w (wr.alloc (.cells #[.int .i64 op, .int .i64 oq] 66)) := hbel.trans ((below_box _).mono hbel.size)
              have hca := HCA.out (wr.alloc (.cells #[.int .i64 op, .int .i64 oq] 66)) op oq hb7 hmem
              have HB7 : Hid (Below w.heap.size w (wr.alloc (.cells #[.int .i64 op, .int .i64 oq] 66))) := hb7
              obtain ⟨q, hq⟩ : ∃ b, b = pd (op, oq) := ⟨_, rfl⟩
              rw [← hq] at hca
              have HQ : Hid (q = pd (op, oq)) := hq
              have hki : (j : Int) < (n : Int) := by omega
              clear d0 ho hq y0 y1 hmem hb7
              cases q
              · have HIN : Hid (∀ t, t < j + 1 → pd (rs.getD t G0) = false) := fun t ht => by
                  rcases Nat.lt_or_ge t j with h1 | h1
                  · exact HI.out t h1
                  · obtain rfl : t = j := by omega
                    rw [← HS2.out]; exact HQ.out.symm
                go_wp2_with (first | (go_at_call 76; (with_reducible refine hca.mono ?_); clear hca; rintro e w8 ⟨rfl, hb8⟩))
                go_roundw
                case rel => exact ⟨j + 1, by omega, by go_num, HB7.out.trans (hb8.mono HB7.out.size), HIN⟩
                case measure => simp [intOf]; omega
              · have HFI : Hid (u = 7) := by show _ = _; rw [HU.out, if_pos (any_yes HN.out hlt (by rw [← HS2.out, ← HPD.out]; exact HQ.out.symm))]
                go_wp2_with (first | (go_at_call 76; (with_reducible refine hca.mono ?_); clear hca; rintro e w8 ⟨rfl, hb8⟩))
                go_ret
                exact ⟨by rw [HFI.out]; rfl, HB7.out.trans (hb8.mono HB7.out.size)⟩
            · have hlen := (HHP.out.pu.below hbel).len
              have hlen2 := (HHS.out.pu.below hbel).len
              have hu2 : u = if 40 < (offC cs id).length + sp.length then 2 else 0 := by rw [HU.out, if_neg (by rw [any_no HN.out (fun t ht => by rw [← HPD.out]; exact HI.out t (by omega))]; exact Bool.false_ne_true)]
              have e1 := HHP.out.len
              have e2 := HHS.out.len
              have e3 := HMS.out
              have hw1 : IntKind.i64.wrap ((ps.length : Int) - (ms.length : Int)) = (ps.length : Int) - (ms.length : Int) := IntWalk.i64_in _ (by omega)
              have hw2 : IntKind.i64.wrap ((ps.length : Int) - (ms.length : Int) + (qs.length : Int)) = (ps.length : Int) - (ms.length : Int) + (qs.length : Int) := IntWalk.i64_in _ (by omega)
              have hki : ¬ (j : Int) < (n : Int) := by omega
              by_cases h40 : 40 < (offC cs id).length + sp.length
              · have HFI : Hid (u = 2) := by show _ = _; rw [hu2, if_pos h40]
                have hgt : (40 : Int) < (ps.length : Int) - (ms.length : Int) + (qs.length : Int) := by omega
                clear hu2 h40 e1 e2 e3
                go_wp2
                go_ret
                exact ⟨by rw [HFI.out]; rfl, hbel⟩
              · have HFI : Hid (u = 0) := by show _ = _; rw [hu2, if_neg h40]
                have hgt : ¬ (40 : Int) < (ps.length : Int) - (ms.length : Int) + (qs.length : Int) := by omega
                clear hu2 h40 e1 e2 e3
                go_wp2
                go_ret
                exact ⟨by rw [HFI.out]; rfl, hbel⟩
  · rw [if_pos h1] at hu
    subst hu
    clear hcd h hk hH hS hbx
    go_enter Tryz.func55, Tryz.ntmps55
    go_wp2_with (first
      | (go_at_call 72; (with_reducible refine hT.mono ?_); clear hT; rintro e w2 ⟨rfl, hb2⟩; have B2 : Hid (TBx w w2 k f ia n c oa m d 37) := B0.out.step hb2; obtain ⟨p0, p1, p2, p3, _⟩ := cells4 B2.out.box; clear hb2))
    go_ret
    exact ⟨rfl, B2.out.bel⟩

end Go.Proofs.YtedchnkeigagcaaGreat

namespace Go.Proofs.YtedchnkeigagcaaGreat
open Go.RowKit Go.Maps Go.WideMaps

def IsMap (w : World) (B : Nat) : Prop := ∃ es cl, w.heap[B]? = some (.map es cl)
theorem Pu.isMap {w : World} {lo B : Nat} {ps : List (Co × Value)} (h : Pu w lo B ps) : IsMap w B := by
  obtain ⟨D, ⟨es, cl, hb, _⟩, _⟩ := h.map
  exact ⟨es, cl, hb⟩
theorem own_map {w : World} {base size n B : Nat} {e : TypeId} {v : Value} {xs : List Value} (h : w.ownsRow base e size v n xs) (hB : IsMap w B) : ∀ k, v.ownBlock = some k → k < B ∨ B + 1 ≤ k := fun k hk => by
  obtain ⟨es, cl, hb⟩ := hB
  rcases h.2 with ⟨e1, _⟩ | ⟨g, cp, cur, e1, _, hh, _⟩
  · rw [e1] at hk; cases hk
  · rw [e1] at hk
    have : g = k := by simpa [Value.ownBlock] using hk
    have hne : k ≠ B := fun e2 => by rw [this, e2, hb] at hh; cases hh
    omega
theorem COwn.turn {w w' : World} {lo hi n B : Nat} {v : Value} {f : Nat → Co} {kv : Nat → Value} (h : COwn w lo hi v n f kv) (hB : IsMap w B) (hc : Chg w w' B (B + 1)) : COwn w' lo hi v n f kv := by
  obtain ⟨xs, h1, h2⟩ := h.row
  exact ⟨⟨xs, hc.row h1 (own_map h1 hB), h2⟩, h.top, fun j hj => ⟨hc.row (h.keys j hj).1 (own_map (h.keys j hj).1 hB), (h.keys j hj).2⟩, h.apart⟩
theorem Pu.turn {w w' : World} {lo B B2 : Nat} {qs : List (Co × Value)} (h : Pu w lo B2 qs) (hB : IsMap w B) (hne : B2 ≠ B) (hc : Chg w w' B (B + 1)) : Pu w' lo B2 qs := by
  have hlt := h.lt
  obtain ⟨D, ⟨es, cl, hb, F, hs, hD⟩, hsz, hat⟩ := h.map
  exact ⟨⟨D, ⟨es, cl, (hc.block B2 hlt (by omega)).trans hb, F, hs, hD⟩, hsz, hat⟩, fun x hx => hc.row (h.rows x hx) (own_map (h.rows x hx) hB), h.base, h.apart, h.refs, h.wfs⟩
theorem ranges_turn {P : Program} {k : TypeId} {R : Value → Option (DataW Value × List MemPlace)} {w w' : World} {b r n B : Nat} {D : DataW Value} {left : Lit → Bool} {cnt : Nat} (h : w.ranges P k R b r n D left cnt) (hb : b ≠ B) (hr : r ≠ B) (hc : Chg w w' B (B + 1)) : w'.ranges P k R b r n D left cnt := by
  have h1 := h.owns.lt
  have h2 := h.lt
  obtain ⟨es, clock, since, seen, c0, hb', F, hs, hD, hr', rest⟩ := h
  exact ⟨es, clock, since, seen, c0, (hc.block b h1 (by omega)).trans hb', F, hs, hD, (hc.block r h2 (by omega)).trans hr', rest⟩

theorem rise_inj {cs : List Co} (h : RiseC cs) {a b : Co} (ha : a ∈ cs) (hb : b ∈ cs) (e : (a.p, a.q) = (b.p, b.q)) : a = b :=
  Classical.byContradiction fun hne => pair_of (R := fun x y : Co => (x.p, x.q) ≠ (y.p, y.q)) (fun _ _ h => h.symm) (rise_ne h) a ha b hb hne e
theorem not_take {ms : List Co} {j : Nat} (h : RiseC ms) (hj : j < ms.length) : ms.getD j C0 ∉ ms.take j := fun hm => by
  obtain ⟨i, hi, e⟩ := List.getElem_of_mem hm
  rw [List.length_take] at hi
  rw [List.getElem_take] at e
  have := List.pairwise_iff_getElem.1 h i j (by omega) hj (by omega)
  rw [List.getD, List.getElem?_eq_getElem hj] at e
  rw [e] at this
  have := cmpR_pos.1 this
  simp at this
theorem takeC_snoc {ms : List Co} {j : Nat} {o : Co} (hj : j < ms.length) (ho : o = ms.getD j C0) : ms.take (j + 1) = ms.take j ++ [o] := by
  rw [List.take_add_one, ho, List.getD, List.getElem?_eq_getElem hj]; rfl

/-- The coins of the number are taken, one after another. -/
structure Un1 (v wr : World) (lo B : Nat) (cs ms : List Co) (j : Nat) (ps : List (Co × Value)) : Prop where
  pu : Pu wr lo B ps
  mem : ∀ c, c ∈ ps.map (·.1) ↔ c ∈ cs ∧ c ∉ ms.take j
  chg : Chg v wr B (B + 1)
theorem Un1.find {v wr : World} {lo B j : Nat} {cs ms : List Co} {ps : List (Co × Value)} {id : Int} {o : Co} (h : Un1 v wr lo B cs ms j ps) (hc : RiseC cs) (hms : ms = ofC cs id) (hj : j < ms.length) (ho : o = ms.getD j C0) : ∃ x, findP ps (o.p, o.q) = some x := by
  have h1 : o ∈ ms := by rw [ho]; exact getC_mem hj
  have h2 : o ∈ cs := by rw [hms] at h1; exact (List.mem_filter.1 h1).1
  have h3 : RiseC ms := by rw [hms]; exact hc.filter _
  obtain ⟨x, hx, rfl⟩ := List.mem_map.1 ((h.mem o).2 ⟨h2, by rw [ho]; exact not_take h3 hj⟩)
  exact ⟨x, find_mem h.pu.refs hx⟩
theorem Un1.step {v wr w' : World} {lo B j : Nat} {cs ms : List Co} {ps : List (Co × Value)} {id : Int} {o : Co} (h : Un1 v wr lo B cs ms j ps) (hc : RiseC cs) (hms : ms = ofC cs id) (hj : j < ms.length) (ho : o = ms.getD j C0) (hp : Pu w' lo B (dropP ps (o.p, o.q))) (hch : Chg wr w' B (B + 1)) : Un1 v w' lo B cs ms (j + 1) (dropP ps (o.p, o.q)) := by
  refine ⟨hp, fun c => ?_, h.chg.trans hch⟩
  have h1 : o ∈ ms := by rw [ho]; exact getC_mem hj
  have h2 : o ∈ cs := by rw [hms] at h1; exact (List.mem_filter.1 h1).1
  rw [drop_map, takeC_snoc hj ho]
  unfold dropC
  rw [List.mem_filter, h.mem c, List.mem_append, List.mem_singleton]
  constructor
  · rintro ⟨⟨a1, a2⟩, a3⟩
    refine ⟨a1, ?_⟩
    rintro (e | e)
    · exact a2 e
    · rw [e] at a3; simp at a3
  · rintro ⟨a1, a2⟩
    refine ⟨⟨a1, fun e => a2 (.inl e)⟩, ?_⟩
    exact decide_eq_true fun e => a2 (.inr (rise_inj hc a1 h2 e))
theorem Un1.all {v wr : World} {lo B j : Nat} {cs ms : List Co} {ps : List (Co × Value)} {id : Int} (h : Un1 v wr lo B cs ms j ps) (hms : ms = ofC cs id) (hj : ms.length ≤ j) : ∀ c, c ∈ ps.map (·.1) ↔ c ∈ offC cs id := fun c => by
  rw [h.mem c, List.take_of_length_le hj, hms]
  unfold ofC offC
  rw [List.mem_filter, List.mem_filter]
  constructor
  · rintro ⟨a1, a2⟩; exact ⟨a1, by simpa using fun e => a2 ⟨a1, by simpa using e⟩⟩
  · rintro ⟨a1, a2⟩; exact ⟨a1, fun ⟨_, a3⟩ => by simp at a2 a3; exact a2 a3⟩

/-- What was spent comes back, in any order. -/
structure Un2 (w wr : World) (lo B lo2 B2 : Nat) (qs : List (Co × Value)) (base : List Co) (left : Lit → Bool) (ss : List SC) (ps : List (Co × Value)) : Prop where
  come : ComeC qs left ss
  pu : Pu wr lo B ps
  mem : ∀ c, c ∈ ps.map (·.1) ↔ c ∈ base ∨ c ∈ ss.map fun z => z.1.1
  sp : Pu wr lo2 B2 qs
  chg : Chg w wr B (B + 1)
theorem Un2.find {w wr : World} {lo B lo2 B2 : Nat} {qs : List (Co × Value)} {base sp : List Co} {left : Lit → Bool} {ss : List SC} {ps : List (Co × Value)} (h : Un2 w wr lo B lo2 B2 qs base left ss ps) (hap : (base ++ sp).Pairwise (fun x y => ¬ (x.p = y.p ∧ x.q = y.q))) (hsp : ∀ c, c ∈ sp ↔ c ∈ qs.map (·.1)) {z : SC} {kl : Lit} (hz : z.1 ∈ qs) (hk : keyOf Tryz.prog 66 (encR (refOf z.1)) = some kl) (hl : left kl = true) : findP ps (z.1.1.p, z.1.1.q) = none := by
  unfold findP
  rw [List.find?_eq_none]
  intro x hx e
  have e1 : (x.1.p, x.1.q) = (z.1.1.p, z.1.1.q) := by simpa [refOf] using e
  have e2 := Prod.mk.inj e1
  rcases (h.mem x.1).1 (List.mem_map.2 ⟨x, hx, rfl⟩) with h1 | h1
  · rw [List.pairwise_append] at hap
    exact hap.2.2 x.1 h1 z.1.1 ((hsp z.1.1).2 (List.mem_map.2 ⟨z.1, hz, rfl⟩)) e2
  · obtain ⟨y, hy, e3⟩ := List.mem_map.1 h1
    have hr : refOf y.1 = refOf z.1 := by unfold refOf; rw [e3]; exact e1
    exact (h.come.2.2 z.1 hz kl hk).1 hl ⟨y, hy, refs_inj h.sp.refs y.1 (h.come.1 y hy) z.1 hz hr⟩
theorem Un2.len {w wr : World} {lo B lo2 B2 : Nat} {qs : List (Co × Value)} {base sp : List Co} {left : Lit → Bool} {ss : List SC} {ps : List (Co × Value)} (h : Un2 w wr lo B lo2 B2 qs base left ss ps) (hsp : ∀ c, c ∈ sp ↔ c ∈ qs.map (·.1)) : ps.length ≤ base.length + sp.length := by
  have h1 : (ps.map refOf).Nodup := by unfold List.Nodup; rw [List.pairwise_map]; exact h.pu.refs
  have a := sub_length (ps.map refOf) (refsC (base ++ sp)) h1 fun r hr => by
    obtain ⟨x, hx, rfl⟩ := List.mem_map.1 hr
    refine List.mem_map.2 ⟨x.1, ?_, rfl⟩
    rw [List.mem_append]
    rcases (h.mem x.1).1 (List.mem_map.2 ⟨x, hx, rfl⟩) with h2 | h2
    · exact .inl h2
    · obtain ⟨y, hy, e3⟩ := List.mem_map.1 h2
      exact .inr ((hsp x.1).2 (List.mem_map.2 ⟨y.1, h.come.1 y hy, e3⟩))
  simp [refsC] at a
  exact a
theorem Un2.all {w wr : World} {lo B lo2 B2 : Nat} {qs : List (Co × Value)} {base sp : List Co} {left : Lit → Bool} {ss : List SC} {ps : List (Co × Value)} (h : Un2 w wr lo B lo2 B2 qs base left ss ps) (hsp : ∀ c, c ∈ sp ↔ c ∈ qs.map (·.1)) (hl : ∀ kl, left kl = false) : ∀ c, c ∈ addCs base sp ↔ c ∈ ps.map (·.1) := fun c => by
  rw [addCs_mem, List.mem_append, h.mem c, hsp c]
  have hA := come_all h.come h.sp.wfs hl
  constructor
  · rintro (h1 | h1)
    · exact .inl h1
    · obtain ⟨x, hx, rfl⟩ := List.mem_map.1 h1
      obtain ⟨y, hy, rfl⟩ := hA.2.2 x hx
      exact .inr (List.mem_map.2 ⟨y, hy, rfl⟩)
  · rintro (h1 | h1)
    · exact .inl h1
    · obtain ⟨y, hy, rfl⟩ := List.mem_map.1 h1
      exact .inr (List.mem_map.2 ⟨y.1, h.come.1 y hy, rfl⟩)
theorem Un2.step {w wr w3 w' : World} {lo B lo2 B2 : Nat} {qs : List (Co × Value)} {base : List Co} {left : Lit → Bool} {ss : List SC} {ps : List (Co × Value)} {z : SC} {kl : Lit} {u : Value} (h : Un2 w wr lo B lo2 B2 qs base left ss ps) (hz : z.1 ∈ qs) (hk : keyOf Tryz.prog 66 (encR (refOf z.1)) = some kl) (hl : left kl = true) (h3 : Un2 w w3 lo B lo2 B2 qs base left ss ps) (hne : B2 ≠ B) (hp : Pu w' lo B (ps ++ [(z.1.1, u)])) (hch : Chg w3 w' B (B + 1)) : Un2 w w' lo B lo2 B2 qs base (fun t => left t && !t.sameKey kl) (ss ++ [z]) (ps ++ [(z.1.1, u)]) := by
  refine ⟨come_step h.come h.sp.refs hz hk hl, hp, fun c => ?_, h3.sp.turn h3.pu.isMap hne hch, h3.chg.trans hch⟩
  rw [List.map_append, List.mem_append, h.mem c, List.map_append, List.mem_append]
  simp [or_assoc]

def UndoO (w w' : World) (e : Ending) (lo B : Nat) (u : Int) (rs : List Co) : Prop :=
  e = .returned (.int .i64 u) ∧ Chg w w' B (B + 1) ∧ (u = 0 → ∃ ps', Pu w' lo B ps' ∧ ∀ c, c ∈ rs ↔ c ∈ ps'.map (·.1))

set_option maxRecDepth 100000 in
set_option maxHeartbeats 4000000 in
theorem undo_any (B lo B2 lo2 : Nat) (ps qs : List (Co × Value)) (cs sp : List Co) (n c m d : Nat) (ia oa : Option Addr) (k f : Int) (rs : List (Int × Int)) (os : List Ou) (id : Int) (w : World) (hH : Holds w lo B ps cs) (hS : Holds w lo2 B2 qs sp) (hlo : lo ≤ w.heap.size) (hlo2 : lo2 ≤ w.heap.size) (hne : B2 ≠ B) (hks : ∀ c ∈ sp, 1 ≤ c.l.length)
    (hn : n ≤ 1048576) (hm : m ≤ 1048576) (hc1 : n ≤ c) (hc2 : c ≤ maxLen) (hk : ∀ j, j < m → (os.getD j O0).l.length ≤ 1048576) (h : TxAt w ia n oa m rs os) :
    Calls Tryz.prog 31 #[.map (some B), .agg #[.int .i64 k, .int .i64 f, .slice ia n c, .slice oa m d], .int .i64 id, .map (some B2)] w fun e w' => UndoO w w' e lo B (undoF cs k f rs os id sp) (addCs (offC cs id) sp) := by
  have hbx : Below w.heap.size w (w.alloc (.cells #[.int .i64 k, .int .i64 f, .slice ia n c, .slice oa m d] 37)) := below_box _
  have hF := undoFault_any B lo B2 lo2 ps qs cs sp n c m d ia oa k f rs os id (w.alloc (.cells #[.int .i64 k, .int .i64 f, .slice ia n c, .slice oa m d] 37)) (hH.below hbx) (hS.below hbx) (Nat.le_trans hlo hbx.size) (Nat.le_trans hlo2 hbx.size) hn hm hc1 hc2 hk (h.below hbx (Nat.le_refl _))
  have HBX : Hid (Below w.heap.size w (w.alloc (.cells #[.int .i64 k, .int .i64 f, .slice ia n c, .slice oa m d] 37))) := hbx
  obtain ⟨p0, p1, p2, p3, _⟩ := cells4 (heap_alloc_new w (.cells #[.int .i64 k, .int .i64 f, .slice ia n c, .slice oa m d] 37))
  obtain ⟨u, hu⟩ : ∃ u, u = undoF cs k f rs os id sp := ⟨_, rfl⟩
  rw [← hu] at hF ⊢
  by_cases h0 : u = 0
  · subst h0
    have hAP : (offC cs id ++ sp).Pairwise (fun x y => ¬ (x.p = y.p ∧ x.q = y.q)) := by
      unfold undoF at hu
      by_cases h3 : txR k f rs os ≠ 0
      · rw [if_pos h3] at hu; exact absurd hu.symm h3
      rw [if_neg h3] at hu
      by_cases h4 : inB id 1 60 = false
      · rw [if_pos h4] at hu; cases hu
      rw [if_neg h4] at hu
      by_cases h5 : justB sp rs = false
      · rw [if_pos h5] at hu; cases hu
      rw [if_neg h5] at hu
      by_cases h6 : madeB (ofC cs id) os = false
      · rw [if_pos h6] at hu; cases hu
      rw [if_neg h6] at hu
      by_cases h7 : rs.any (hasC cs) = true
      · rw [if_pos h7] at hu; cases hu
      exact back_apart hH.rise hS.rise (tx_facts (by simpa using h3)).2.1 (by simpa using h5) h7
    obtain ⟨ms, hms⟩ : ∃ l, l = ofC cs id := ⟨_, rfl⟩
    have HMS : Hid (ms = ofC cs id) := hms
    have HAP : Hid ((offC cs id ++ sp).Pairwise (fun x y => ¬ (x.p = y.p ∧ x.q = y.q))) := hAP
    have HHP : Hid (Holds w lo B ps cs) := hH
    have HHS : Hid (Holds w lo2 B2 qs sp) := hS
    have HKS : Hid (∀ c ∈ sp, 1 ≤ c.l.length) := hks
    have HMd : ∀ v, Below w.heap.size w v → Calls Tryz.prog 56 #[.map (some B), .int .i64 id] v fun e w' => ∃ r, e = .returned r ∧ Hid ((∃ kv, COwn w' lo w'.heap.size r ms.length (fun j => ms.getD j C0) kv) ∧ Below v.heap.size v w') := fun v hv => by
      rw [hms]
      exact madeBy_any B lo id ps cs v (hH.pu.below hv) (Nat.le_trans hlo hv.size) (by have := hH.len; have := hH.few; omega) hH.rise hH.mem
    have hmle : ms.length ≤ 500 := by rw [hms]; exact Nat.le_trans (List.length_filter_le _ _) hH.few
    have hBl := hH.pu.lt
    have hB2l := hS.pu.lt
    clear hu hAP hms hH hS hks h hk hbx hc1 hc2
    go_enter Tryz.func31, Tryz.ntmps31
    go_wp2_with (first
      | (go_at_call 55; (with_reducible refine hF.mono ?_); clear hF; rintro e w2 ⟨rfl, hb2⟩; have HB2 : Hid (Below w.heap.size w w2) := HBX.out.trans (hb2.mono HBX.out.size); have hM := HMd w2 HB2.out; clear hb2 p0 p1 p2 p3)
      | (go_at_call 56; (with_reducible refine hM.mono ?_); clear hM; rintro e w4 ⟨v, rfl, HS⟩; obtain ⟨va, vc, hv⟩ := own_slice3 HS.out.1; subst hv; have HB4 : Hid (Below w.heap.size w w4) := HB2.out.trans (HS.out.2.mono HB2.out.size)))
    have HP4 : Hid (Pu w4 lo B ps) := HHP.out.pu.below HB4.out
    have hs4 := HB4.out.size
    go_loopw [26] (fun i wr => ∃ j : Nat, j ≤ ms.length ∧ i = .int .i64 j ∧ Hid (∃ ts, Un1 w4 wr lo B cs ms j ts)) (fun i _ => ms.length - (intOf i).toNat)
    case atStart => exact ⟨0, Nat.zero_le _, rfl, ps, HP4.out, fun c => by rw [HHP.out.mem c]; simp, Chg.refl _ _ _⟩
    case round =>
      obtain ⟨j, hj, rfl, HU⟩ := hrel
      obtain ⟨ts, hU⟩ := HU.out
      have hws := hU.chg.size
      by_cases hlt : j < ms.length
      · obtain ⟨kv, hO4⟩ := HS.out.1
        have hO := hO4.turn HP4.out.isMap hU.chg
        obtain ⟨g, ug, eg⟩ : ∃ g ug, (Value.slice va ms.length vc) = .slice (some ⟨g, 0, none⟩) ms.length ug := by
          obtain ⟨xs, h1, _⟩ := hO.row
          rcases h1.2 with ⟨e1, e2⟩ | ⟨g, cp, cur, e1, _⟩
          · omega
          · exact ⟨g, cp, e1⟩
        cases eg
        obtain ⟨o, ho⟩ : ∃ o, o = ms.getD j C0 := ⟨_, rfl⟩
        obtain ⟨ka, kn, kc, hkv⟩ : ∃ a n c, kv j = .slice a n c := by
          rcases (hO.keys j hlt).1.2 with ⟨e1, _⟩ | ⟨g, cp, cur, e1, _⟩
          · exact ⟨none, 0, 0, e1⟩
          · exact ⟨_, _, _, e1⟩
        obtain ⟨⟨x0, x1, x2, x3, x4, x5, x6, x7⟩, _⟩ := hO.cells hlt (show ms.getD j C0 = o from ho.symm) hkv
        obtain ⟨x, hx⟩ := hU.find HHP.out.rise HMS.out hlt ho
        have hwf : (Lit.int .i64 o.p).wf = true ∧ (Lit.int .i64 o.q).wf = true := by
          have := hU.pu.wfs x (find_get hx).1
          have e := (find_get hx).2
          have e1 := Prod.mk.inj (show (x.1.p, x.1.q) = (o.p, o.q) from e)
          rw [← e1.1, ← e1.2]
          exact this
        have HUT : Hid (Un1 w4 wr lo B cs ms j ts) := hU
        have HO1 : Hid (o = ms.getD j C0) := ho
        obtain ⟨op, oq, ov, ol, ox, oy, oh, om⟩ := o
        simp only at x0 x1 x2 x3 x4 x5 x6 x7 hx hwf
        have hbx5 : Below wr.heap.size wr (wr.alloc (.cells #[.int .i64 op, .int .i64 oq, .int .i64 ov, .slice ka kn kc, .int .i64 ox, .int .i64 oy, .int .i64 oh, .bool om] 72)) := below_box _
        have ht := take_any B lo op oq ts x (wr.alloc (.cells #[.int .i64 op, .int .i64 oq, .int .i64 ov, .slice ka kn kc, .int .i64 ox, .int .i64 oy, .int .i64 oh, .bool om] 72)) (hU.pu.below hbx5) hx hwf.1 hwf.2
        have HC5 : Hid (Chg wr (wr.alloc (.cells #[.int .i64 op, .int .i64 oq, .int .i64 ov, .slice ka kn kc, .int .i64 ox, .int .i64 oy, .int .i64 oh, .bool om] 72)) B (B + 1)) := Chg.of_below hbx5 _ _
        obtain ⟨⟨t0, t1, t2, t3, t4, t5, t6, t7⟩, _⟩ := cells8 (heap_alloc_new wr (.cells #[.int .i64 op, .int .i64 oq, .int .i64 ov, .slice ka kn kc, .int .i64 ox, .int .i64 oy, .int .i64 oh, .bool om] 72))
        have hki : (j : Int) < (ms.length : Int) := by omega
        clear hU hO hO4 hkv hx hwf ho hbx5 HU
        go_wp2_with (first
          | (go_at_call 57; (with_reducible refine ht.mono ?_); clear ht; rintro e w6 ⟨rfl, HPU, HCH⟩))
        go_roundw
        case rel => exact ⟨j + 1, by omega, by go_num, _, HUT.out.step HHP.out.rise HMS.out hlt HO1.out HPU.out (HC5.out.trans HCH.out)⟩
        case measure => simp [intOf]; omega
      · have hmem := hU.all HMS.out (by omega)
        have hCW : Chg w wr B (B + 1) := (Chg.of_below HB4.out _ _).trans hU.chg
        have hPS : Pu wr lo2 B2 qs := (HHS.out.pu.below HB4.out).turn HP4.out.isMap hne hU.chg
        obtain ⟨D, hown, hT⟩ := hPS.told
        have HT : Hid (Told D qs) := hT
        have HM0 : Hid (Un2 w wr lo B lo2 B2 qs (offC cs id) (fun kl => Maps.has D kl) [] ts) := ⟨come_start hT, hU.pu, fun c => by rw [hmem c]; simp, hPS, hCW⟩
        have hki : ¬ (j : Int) < (ms.length : Int) := by omega
        have hBw : B < wr.heap.size := by omega
        have hB2w : B2 < wr.heap.size := by omega
        have hww : w.heap.size ≤ wr.heap.size := by omega
        clear hmem hCW hPS hT hU HU HS
        obtain ⟨W, hW⟩ : ∃ W, W = wr := ⟨_, rfl⟩
        subst hW
        go_wp2_with (first
          | (at_range; refine wpList_range_own _ rfl _ 77 rfl 66 72 kR Tryz.underlying77 _ B2 qs.length _ rfl hown ?_; intro w0 hrg0 hg0 hs0))
        try go_frame
        have HM1 : Hid (Un2 w w0 lo B lo2 B2 qs (offC cs id) (fun kl => Maps.has D kl) [] ts) := by
          have h0 := HM0.out
          have hb0 : Below W.heap.size W w0 := (Below.refl _ _).grown hg0 (Nat.le_refl _) (fun k e => by cases e)
          exact ⟨h0.come, h0.pu.below hb0, h0.mem, h0.sp.below hb0, h0.chg.trans (Chg.of_below hb0 _ _)⟩
        clear hg0 hs0 HM0 hown
        go_loopw [13] (fun _ wr => ∃ (left : Lit → Bool) (cnt : Nat) (ss : List SC) (us : List (Co × Value)), wr.ranges Tryz.prog 66 Rv B2 W.heap.size qs.length D left cnt ∧ Hid (Un2 w wr lo B lo2 B2 qs (offC cs id) left ss us)) (fun _ wr => wr.rangeLeft B2 W.heap.size)
        case atStart => exact ⟨_, _, [], _, hrg0, HM1.out⟩
        case round =>
          obtain ⟨left, cnt, ss, us, hrg, HM⟩ := hrel
          go_wp2_with (first
            | (at_next; refine wpList_next_ranges _ rfl _ rfl 66 kR Rv _root_.id _root_.id (fun key kl hk => ⟨key, rfl⟩) (fun v _ _ => ⟨v, rfl⟩) B2 W.heap.size qs.length _ _ _ rfl hrg ?_ ?_))
          · intro hc0 hl0
            have HA : Hid (∀ c, c ∈ addCs (offC cs id) sp ↔ c ∈ us.map (·.1)) := HM.out.all HHS.out.mem hl0
            clear hrg hc0 hl0 hrg0
            go_wp2
            go_ret
            exact ⟨rfl, HM.out.chg, fun _ => ⟨us, HM.out.pu, HA.out⟩⟩
          · intro x c' kl yd yp w2' cnt2 hkey hlk hv hat hrg2 hlt hg2 hs2 hen
            obtain rfl : yd = .held c' := (Prod.mk.inj (show (DataW.held c', ([] : List MemPlace)) = (yd, yp) from Option.some.inj hv)).1.symm
            obtain ⟨z, hz, rfl, rfl, hz1, hz2⟩ := come_which HT.out (show keyOf Tryz.prog 66 x = some kl from hkey) hat
            have hkz : keyOf Tryz.prog 66 (encR (refOf z.1)) = some kl := hkey
            have hM := HM.out
            have hc2' : Chg w w2' B (B + 1) := ⟨hg2.os.trans hM.chg.os, hg2.tape.trans hM.chg.tape, hg2.output.trans hM.chg.output, Nat.le_trans hM.chg.size hg2.size, fun b hb hbd => (hg2.block b (Nat.lt_of_lt_of_le hb hM.chg.size) (fun e => by cases e; omega)).trans (hM.chg.block b hb hbd)⟩
            have hM2 : Un2 w w2' lo B lo2 B2 qs (offC cs id) left ss us := ⟨hM.come, hM.pu.iter (ranges_iter hrg) hg2, hM.mem, hM.sp.iter (ranges_iter hrg) hg2, hc2'⟩
            have HR0 : Hid (wr.ranges Tryz.prog 66 Rv B2 W.heap.size qs.length D left cnt) := hrg
            have hzs : z.1.1 ∈ sp := (HHS.out.mem z.1.1).2 (List.mem_map.2 ⟨z.1, hz, rfl⟩)
            have hl1 := HKS.out _ hzs
            have hl2 := HHS.out.good _ hzs
            have hfn := hM2.find HAP.out HHS.out.mem hz hkz hlk
            have hul := hM2.len HHS.out.mem
            have hul2 : us.length ≤ 1000 := by
              have a := HHS.out.few
              have b := HHP.out.few
              have c := List.length_filter_le (fun c : Co => decide (c.p ≠ id)) cs
              unfold offC at hul
              omega
            have hrow := hM2.sp.rows z.1 hz
            obtain ⟨kb, kc, hu⟩ : ∃ kb kc, z.1.2 = .slice (some ⟨kb, 0, none⟩) z.1.1.l.length kc := by
              rcases hrow.2 with ⟨_, e1⟩ | ⟨g, cp, cur, e1, _⟩
              · omega
              · exact ⟨g, cp, e1⟩
            rw [hu] at hrow
            have HZ : Hid (z.1 ∈ qs) := hz
            have HKZ : Hid (keyOf Tryz.prog 66 (encR (refOf z.1)) = some kl) := hkz
            have HM2 : Hid (Un2 w w2' lo B lo2 B2 qs (offC cs id) left ss us) := hM2
            obtain ⟨op, hop⟩ : ∃ y, y = z.1.1.p := ⟨_, rfl⟩
            obtain ⟨oq, hoq⟩ : ∃ y, y = z.1.1.q := ⟨_, rfl⟩
            obtain ⟨ov, hov⟩ : ∃ y, y = z.1.1.v := ⟨_, rfl⟩
            obtain ⟨ol, hol⟩ : ∃ y, y = z.1.1.l := ⟨_, rfl⟩
            obtain ⟨ox, hox⟩ : ∃ y, y = z.1.1.x := ⟨_, rfl⟩
            obtain ⟨oy, hoy⟩ : ∃ y, y = z.1.1.y := ⟨_, rfl⟩
            obtain ⟨oh, hoh⟩ : ∃ y, y = z.1.1.h := ⟨_, rfl⟩
            obtain ⟨om, hom⟩ : ∃ y, y = z.1.1.m := ⟨_, rfl⟩
            have HZE : Hid (z.1.1 = ⟨op, oq, ov, ol, ox, oy, oh, om⟩) := by show _ = _; rw [hop, hoq, hov, hol, hox, hoy, hoh, hom]
            dsimp only [coV, encR, refOf, _root_.id] at hen ⊢
            rw [hu] at hen ⊢
            rw [← hop, ← hoq, ← hov, ← hol, ← hox, ← hoy, ← hoh, ← hom] at hen ⊢
            rw [← hop, ← hoq] at hfn
            rw [← hop] at hz1
            rw [← hoq] at hz2
            rw [← hol] at hl1 hl2 hrow
            have hbx3 : Below w2'.heap.size w2' (w2'.alloc (.cells #[.int .i64 op, .int .i64 oq, .int .i64 ov, .slice (some ⟨kb, 0, none⟩) ol.length kc, .int .i64 ox, .int .i64 oy, .int .i64 oh, .bool om] 72)) := below_box _
            have hput := put_any B lo kb 0 kc us op oq ov ol ox oy oh om (w2'.alloc (.cells #[.int .i64 op, .int .i64 oq, .int .i64 ov, .slice (some ⟨kb, 0, none⟩) ol.length kc, .int .i64 ox, .int .i64 oy, .int .i64 oh, .bool om] 72)) (hM2.pu.below hbx3) (by have := hM2.chg.size; have := hbx3.size; omega) hl2 ((IAt.owned hrow rfl).below hbx3 (Nat.le_refl _)) hz1 hz2 hfn hul2
            have HM3 : Hid (Un2 w (w2'.alloc (.cells #[.int .i64 op, .int .i64 oq, .int .i64 ov, .slice (some ⟨kb, 0, none⟩) ol.length kc, .int .i64 ox, .int .i64 oy, .int .i64 oh, .bool om] 72)) lo B lo2 B2 qs (offC cs id) left ss us) := ⟨hM2.come, hM2.pu.below hbx3, hM2.mem, hM2.sp.below hbx3, hM2.chg.trans (Chg.of_below hbx3 _ _)⟩
            have HR3 : Hid ((w2'.alloc (.cells #[.int .i64 op, .int .i64 oq, .int .i64 ov, .slice (some ⟨kb, 0, none⟩) ol.length kc, .int .i64 ox, .int .i64 oy, .int .i64 oh, .bool om] 72)).ranges Tryz.prog 66 Rv B2 W.heap.size qs.length D (fun s => left s && !s.sameKey kl) cnt2) := hrg2.alloc _
            obtain ⟨⟨t0, t1, t2, t3, t4, t5, t6, t7⟩, _⟩ := cells8 (heap_alloc_new w2' (.cells #[.int .i64 op, .int .i64 oq, .int .i64 ov, .slice (some ⟨kb, 0, none⟩) ol.length kc, .int .i64 ox, .int .i64 oy, .int .i64 oh, .bool om] 72))
            clear hop hoq hov hol hox hoy hoh hom hs2 hkey hat hv hrg hrg2 hM hM2 HM hz hkz hg2 hu hrow hl1 hl2 hul hul2 hfn hz1 hz2 hzs hc2' hbx3 hrg0 HM1
            go_wp2_with (first
              | (go_at_call 58; (with_reducible refine hput.mono ?_); clear hput; rintro e w7 ⟨rfl, HPU, hch⟩; have HCH : Hid (Chg (w2'.alloc (.cells #[.int .i64 op, .int .i64 oq, .int .i64 ov, .slice (some ⟨kb, 0, none⟩) ol.length kc, .int .i64 ox, .int .i64 oy, .int .i64 oh, .bool om] 72)) w7 B (B + 1)) := hch; clear hch))
            have HR7 : Hid (w7.ranges Tryz.prog 66 Rv B2 W.heap.size qs.length D (fun s => left s && !s.sameKey kl) cnt2) := ranges_turn HR3.out hne (by omega) HCH.out
            go_roundw
            case rel =>
              obtain ⟨u, hu⟩ := HPU.out
              rw [← HZE.out] at hu
              exact ⟨_, cnt2, _, _, HR7.out, HM2.out.step HZ.out HKZ.out hlk HM3.out hne hu HCH.out⟩
            case measure => rw [HR7.out.left_eq, HR0.out.left_eq]; exact hlt
  · clear hu hH hS hks h hk hbx
    go_enter Tryz.func31, Tryz.ntmps31
    go_wp2_with (first
      | (go_at_call 55; (with_reducible refine hF.mono ?_); clear hF; rintro e w2 ⟨rfl, hb2⟩; have HB2 : Hid (Below w.heap.size w w2) := HBX.out.trans (hb2.mono HBX.out.size); clear hb2))
    go_ret
    exact ⟨rfl, Chg.of_below HB2.out _ _, fun e => absurd e h0⟩

end Go.Proofs.YtedchnkeigagcaaGreat

namespace Go.Proofs.YtedchnkeigagcaaGreat
open Go.RowKit Go.Maps Go.WideMaps

theorem addC_count {x : Co} : ∀ {ts : List Co}, (addC ts x).length = ts.length + 1
  | [] => rfl
  | a :: l => by
    unfold addC
    by_cases e : cmpR (a.p, a.q) (x.p, x.q) < 0
    · rw [if_pos e, List.length_cons, addC_count, List.length_cons]
    · rw [if_neg e]; rfl
theorem addCs_count : ∀ (xs cs : List Co), (addCs cs xs).length = cs.length + xs.length
  | [], cs => rfl
  | x :: xs, cs => by
    show (addCs (addC cs x) xs).length = _
    rw [addCs_count, addC_count, List.length_cons]
    omega

/-- The transaction's box and the result's block, with the worlds that grow. -/
structure UBx (w v : World) (k f : Int) (ia : Option Addr) (n c : Nat) (oa : Option Addr) (m d : Nat) : Prop where
  tx : v.heap[w.heap.size]? = some (.cells #[.int .i64 k, .int .i64 f, .slice ia n c, .slice oa m d] 37 (0, 0))
  res : v.heap[w.heap.size + 1]? = some (.cells #[.int .i64 0, .slice none 0 0] 31 (0, 0))
  bel : Below w.heap.size w v
  big : w.heap.size + 1 + 1 ≤ v.heap.size
section
variable {w v v' : World} {k f : Int} {ia oa : Option Addr} {n c m d : Nat}
theorem UBx.start : UBx w ((w.alloc (.cells #[.int .i64 k, .int .i64 f, .slice ia n c, .slice oa m d] 37)).alloc (.cells #[.int .i64 0, .slice none 0 0] 31)) k f ia n c oa m d :=
  ⟨(blocks2 w _ _).1, (blocks2 w _ _).2.1, below_box2 _ _, by rw [(blocks2 w _ _).2.2]; exact Nat.le_refl _⟩
theorem UBx.step (h : UBx w v k f ia n c oa m d) (hb : Below v.heap.size v v') : UBx w v' k f ia n c oa m d := ⟨(keepb h.tx hb).out, (keepb h.res hb).out, h.bel.trans (hb.mono h.bel.size), Nat.le_trans h.big hb.size⟩
theorem UBx.turn {B : Nat} (h : UBx w v k f ia n c oa m d) (hB : w.heap.size + 1 + 1 ≤ B) (hc : Chg v v' B (B + 1)) : UBx w v' k f ia n c oa m d :=
  ⟨hc.keep h.tx (by omega), hc.keep h.res (by omega), h.bel.trans (hc.below (by omega) h.bel.size), Nat.le_trans h.big hc.size⟩
end
theorem holds_of {w : World} {lo B : Nat} {ps : List (Co × Value)} {cs : List Co} (hP : Pu w lo B ps) (hcs : ps.map (·.1) = cs) (h : coinsR cs = 0) : Holds w lo B ps cs := by
  obtain ⟨h1, h2, h3⟩ := coins_rise h
  exact ⟨hP, h3, fun c => by rw [hcs], fun c hc => by have := (coin_more (h2 c hc)).2.2.2; omega, by omega⟩
def FilledP (v : World) (lo B : Nat) (cs : List Co) : Prop := ∃ ps, Pu v lo B ps ∧ ps.map (·.1) = cs ∧ coinsR cs = 0
theorem purses_two {w2 w3 : World} {lo B B2 : Nat} {cs sp : List Co} (h : FilledP w2 lo B cs) (h2 : FilledP w3 w2.heap.size B2 sp) (hb : Below w2.heap.size w2 w3) : ∃ ps qs, B2 ≠ B ∧ Holds w3 lo B ps cs ∧ Holds w3 w2.heap.size B2 qs sp := by
  obtain ⟨ps, a1, a2, a3⟩ := h
  obtain ⟨qs, b1, b2, b3⟩ := h2
  have := a1.lt
  have := b1.base
  exact ⟨ps, qs, by omega, (holds_of a1 a2 a3).below hb, holds_of b1 b2 b3⟩

set_option maxRecDepth 20000 in
set_option maxHeartbeats 4000000 in
theorem iUndoTx_any (nc cc ns ds : Nat) (ca sa : Option Addr) (cs sp : List Co) (n c m d : Nat) (ia oa : Option Addr) (k f : Int) (rs : List (Int × Int)) (os : List Ou) (id : Int) (w : World) (hnc : nc ≤ 1048576) (hkc : ∀ j, j < nc → (cs.getD j C0).l.length ≤ 1048576) (hns : ns ≤ 1048576) (hks : ∀ j, j < ns → (sp.getD j C0).l.length ≤ 1048576)
    (hn : n ≤ 1048576) (hm : m ≤ 1048576) (hc1 : n ≤ c) (hc2 : c ≤ maxLen) (hk : ∀ j, j < m → (os.getD j O0).l.length ≤ 1048576) (hC : CAt w ca nc cs) (hS : CAt w sa ns sp) (h : TxAt w ia n oa m rs os) :
    Calls Tryz.prog 9 #[.slice ca nc cc, .agg #[.int .i64 k, .int .i64 f, .slice ia n c, .slice oa m d], .int .i64 id, .slice sa ns ds] w fun e w' => OutCs w w' e (undoR cs k f rs os id sp).1 (undoR cs k f rs os id sp).2 := by
  have HW0 : Hid (UBx w ((w.alloc (.cells #[.int .i64 k, .int .i64 f, .slice ia n c, .slice oa m d] 37)).alloc (.cells #[.int .i64 0, .slice none 0 0] 31)) k f ia n c oa m d) := UBx.start
  have HSZ : Hid (((w.alloc (.cells #[.int .i64 k, .int .i64 f, .slice ia n c, .slice oa m d] 37)).alloc (.cells #[.int .i64 0, .slice none 0 0] 31)).heap.size = w.heap.size + 1 + 1) := (blocks2 w _ _).2.2
  have hF := fillPurse_any nc cc ca cs ((w.alloc (.cells #[.int .i64 k, .int .i64 f, .slice ia n c, .slice oa m d] 37)).alloc (.cells #[.int .i64 0, .slice none 0 0] 31)) hnc hkc (hC.below HW0.out.bel (Nat.le_refl _))
  have hFS : ∀ v, UBx w v k f ia n c oa m d → Calls Tryz.prog 30 #[.slice sa ns ds] v fun e w' => FillR v w' e sp := fun v hv => fillPurse_any ns ds sa sp v hns hks (hS.below hv.bel (Nat.le_refl _))
  rw [undoR_eq]
  by_cases h0 : coinsR cs = 0
  · have hF1 : Calls Tryz.prog 30 #[.slice ca nc cc] ((w.alloc (.cells #[.int .i64 k, .int .i64 f, .slice ia n c, .slice oa m d] 37)).alloc (.cells #[.int .i64 0, .slice none 0 0] 31)) fun e w' => Below ((w.alloc (.cells #[.int .i64 k, .int .i64 f, .slice ia n c, .slice oa m d] 37)).alloc (.cells #[.int .i64 0, .slice none 0 0] 31)).heap.size ((w.alloc (.cells #[.int .i64 k, .int .i64 f, .slice ia n c, .slice oa m d] 37)).alloc (.cells #[.int .i64 0, .slice none 0 0] 31)) w' ∧ ∃ B, e = .returned (.tuple #[.map (some B), .int .i64 0]) ∧ Hid (FilledP w' (w.heap.size + 1 + 1) B cs) := hF.mono fun e w' h => by
      rcases h.2 with h1 | ⟨_, B, ps, h1, h2, h3⟩
      · exact absurd h0 h1.1
      · rw [HSZ.out] at h2
        exact ⟨h.1, B, h1, ps, h2, h3, h0⟩
    clear hF
    rw [if_neg (by simp [h0])]
    by_cases h1 : coinsR sp = 0
    · have HF2 : ∀ v, UBx w v k f ia n c oa m d → Calls Tryz.prog 30 #[.slice sa ns ds] v fun e w' => Below v.heap.size v w' ∧ ∃ B, e = .returned (.tuple #[.map (some B), .int .i64 0]) ∧ Hid (FilledP w' v.heap.size B sp) := fun v hv => (hFS v hv).mono fun e w' h => by
        rcases h.2 with h2 | ⟨_, B, ps, h2, h3, h4⟩
        · exact absurd h1 h2.1
        · exact ⟨h.1, B, h2, ps, h3, h4, h1⟩
      clear hFS
      rw [if_neg (by simp [h1])]
      have HUN : ∀ v B B2 (ps qs : List (Co × Value)) (lo2 : Nat), UBx w v k f ia n c oa m d → lo2 ≤ v.heap.size → w.heap.size + 1 + 1 ≤ B → Holds v (w.heap.size + 1 + 1) B ps cs → Holds v lo2 B2 qs sp → B2 ≠ B → Calls Tryz.prog 31 #[.map (some B), .agg #[.int .i64 k, .int .i64 f, .slice ia n c, .slice oa m d], .int .i64 id, .map (some B2)] v fun e w' => UndoO v w' e (w.heap.size + 1 + 1) B (undoF cs k f rs os id sp) (addCs (offC cs id) sp) := fun v B B2 ps qs lo2 hv hlo2 _ hp hq hne =>
        undo_any B (w.heap.size + 1 + 1) B2 lo2 ps qs cs sp n c m d ia oa k f rs os id v hp hq hv.big hlo2 hne (fun c hc => (coin_more ((coins_rise h1).2.1 c hc)).2.2.1) hn hm hc1 hc2 hk (h.below hv.bel (Nat.le_refl _))
      obtain ⟨u, hu⟩ : ∃ u, u = undoF cs k f rs os id sp := ⟨_, rfl⟩
      rw [← hu] at HUN ⊢
      obtain ⟨zs, hzs⟩ : ∃ zs, zs = addCs (offC cs id) sp := ⟨_, rfl⟩
      rw [← hzs] at HUN ⊢
      by_cases h2 : u = 0
      · subst h2
        rw [if_neg (by simp)]
        have hri : RiseC zs := by
          rw [hzs]
          refine addCs_rise ((coins_rise h0).2.2.filter _) ?_
          unfold undoF at hu
          by_cases h3 : txR k f rs os ≠ 0
          · rw [if_pos h3] at hu; exact absurd hu.symm h3
          rw [if_neg h3] at hu
          by_cases h4 : inB id 1 60 = false
          · rw [if_pos h4] at hu; cases hu
          rw [if_neg h4] at hu
          by_cases h5 : justB sp rs = false
          · rw [if_pos h5] at hu; cases hu
          rw [if_neg h5] at hu
          by_cases h6 : madeB (ofC cs id) os = false
          · rw [if_pos h6] at hu; cases hu
          rw [if_neg h6] at hu
          by_cases h7 : rs.any (hasC cs) = true
          · rw [if_pos h7] at hu; cases hu
          exact back_apart (coins_rise h0).2.2 (coins_rise h1).2.2 (tx_facts (by simpa using h3)).2.1 (by simpa using h5) h7
        have hzl : zs.length ≤ 500 := by
          have a := (coins_rise h0).1
          have b := (coins_rise h1).1
          have c := List.length_filter_le (fun c : Co => decide (c.p ≠ id)) cs
          rw [hzs, addCs_count]
          unfold offC
          omega
        have HCO : ∀ v B, (∃ ps', Pu v (w.heap.size + 1 + 1) B ps' ∧ ∀ c, c ∈ zs ↔ c ∈ ps'.map (·.1)) → UBx w v k f ia n c oa m d → Calls Tryz.prog 32 #[.map (some B)] v fun e w' => ∃ r, e = .returned r ∧ Hid ((∃ kv, COwn w' (w.heap.size + 1 + 1) w'.heap.size r zs.length (fun j => zs.getD j C0) kv) ∧ Below v.heap.size v w') := fun v B ⟨ps', a, b⟩ hv =>
          coins_any B (w.heap.size + 1 + 1) ps' zs v a hv.big (by have := len_mem a.refs hri b; omega) hri b
        clear hu hzs hri h hk hC hS hkc hks h0 h1
        go_enter Tryz.func9, Tryz.ntmps9
        go_wp2_with (first
      | (go_at_call 30; (with_reducible refine hF1.mono ?_); clear hF1; rintro e w2 ⟨hb2, B, rfl, HPU⟩; have HW2 : Hid (UBx w w2 k f ia n c oa m d) := HW0.out.step hb2; have hF2 := HF2 w2 HW2.out; have hs2 := hb2.size; clear hb2)
      | (go_at_call 30; (with_reducible refine hF2.mono ?_); clear hF2; rintro e w3 ⟨hb3, B2, rfl, HPU2⟩; have HW3 : Hid (UBx w w3 k f ia n c oa m d) := HW2.out.step hb3; obtain ⟨p0, p1, p2, p3, _⟩ := cells4 HW3.out.tx; obtain ⟨ps, qs, hbb, hps, hqs⟩ := purses_two HPU.out HPU2.out hb3; have hs3 := hb3.size; have hun := HUN w3 B B2 ps qs w2.heap.size HW3.out (by omega) hps.pu.base hps hqs hbb; have HBB : Hid (w.heap.size + 1 + 1 ≤ B) := hps.pu.base; clear hb3 hps hqs hbb)
      | (go_at_call 31; (with_reducible refine hun.mono ?_); clear hun; rintro e w4 ⟨rfl, hch, hre⟩; have HW4 : Hid (UBx w w4 k f ia n c oa m d) := HW3.out.turn HBB.out hch; obtain ⟨y0, y1⟩ := cells2 HW4.out.res; have f0 := Joins.unfrozen_of_block HW4.out.res 0; have f1 := Joins.unfrozen_of_block HW4.out.res 1; clear hch; have hco := HCO w4 B (hre rfl) HW4.out; clear hre)
      | (go_at_call 32; (with_reducible refine hco.mono ?_); clear hco; rintro e w5 ⟨v, rfl, HS⟩; obtain ⟨va, vc, hv⟩ := own_slice3 HS.out.1; subst hv; have HW5 : Hid (UBx w w5 k f ia n c oa m d) := HW4.out.step HS.out.2; clear y0 y1 f0 f1; obtain ⟨y0, y1⟩ := cells2 HW5.out.res; have f0 := Joins.unfrozen_of_block HW5.out.res 0; have f1 := Joins.unfrozen_of_block HW5.out.res 1))
        obtain ⟨_, j1⟩ := two_set HW5.out.res (.int .i64 0) (.slice va zs.length vc)
        exact bodyPost_ret (v := .agg #[.int .i64 0, .slice va zs.length vc]) (by simp [results, Tryz.results9, go_sem, j1]) rfl (out_coins (lo := w.heap.size + 1 + 1) (by omega) (by omega) HW5.out.bel HS.out.1)
      · rw [if_pos h2]
        clear hu hzs h hk hC hS hkc hks h0 h1
        go_enter Tryz.func9, Tryz.ntmps9
        go_wp2_with (first
      | (go_at_call 30; (with_reducible refine hF1.mono ?_); clear hF1; rintro e w2 ⟨hb2, B, rfl, HPU⟩; have HW2 : Hid (UBx w w2 k f ia n c oa m d) := HW0.out.step hb2; have hF2 := HF2 w2 HW2.out; have hs2 := hb2.size; clear hb2)
      | (go_at_call 30; (with_reducible refine hF2.mono ?_); clear hF2; rintro e w3 ⟨hb3, B2, rfl, HPU2⟩; have HW3 : Hid (UBx w w3 k f ia n c oa m d) := HW2.out.step hb3; obtain ⟨p0, p1, p2, p3, _⟩ := cells4 HW3.out.tx; obtain ⟨ps, qs, hbb, hps, hqs⟩ := purses_two HPU.out HPU2.out hb3; have hs3 := hb3.size; have hun := HUN w3 B B2 ps qs w2.heap.size HW3.out (by omega) hps.pu.base hps hqs hbb; have HBB : Hid (w.heap.size + 1 + 1 ≤ B) := hps.pu.base; clear hb3 hps hqs hbb)
      | (go_at_call 31; (with_reducible refine hun.mono ?_); clear hun; rintro e w4 ⟨rfl, hch, hre⟩; have HW4 : Hid (UBx w w4 k f ia n c oa m d) := HW3.out.turn HBB.out hch; obtain ⟨y0, y1⟩ := cells2 HW4.out.res; have f0 := Joins.unfrozen_of_block HW4.out.res 0; have f1 := Joins.unfrozen_of_block HW4.out.res 1; clear hch; clear hre))
        obtain ⟨_, j1⟩ := two_set HW4.out.res (.int .i64 u) (.slice none 0 0)
        exact bodyPost_ret (v := .agg #[.int .i64 u, .slice none 0 0]) (by simp [results, Tryz.results9, go_sem, j1]) rfl (out_code (by omega) HW4.out.bel)
    · rw [if_pos h1]
      obtain ⟨cd, hcd⟩ : ∃ r, r = coinsR sp := ⟨_, rfl⟩
      have HF2 : ∀ v, UBx w v k f ia n c oa m d → Calls Tryz.prog 30 #[.slice sa ns ds] v fun e w' => Below v.heap.size v w' ∧ e = .returned (.tuple #[.map none, .int .i64 cd]) := fun v hv => (hFS v hv).mono fun e w' h => by
        rcases h.2 with h2 | h2
        · rw [hcd]; exact ⟨h.1, h2.2⟩
        · exact absurd h2.1 h1
      rw [← hcd] at h1 ⊢
      clear hFS hcd h hk hC hS hkc hks
      go_enter Tryz.func9, Tryz.ntmps9
      go_wp2_with (first
      | (go_at_call 30; (with_reducible refine hF1.mono ?_); clear hF1; rintro e w2 ⟨hb2, B, rfl, HPU⟩; have HW2 : Hid (UBx w w2 k f ia n c oa m d) := HW0.out.step hb2; have hF2 := HF2 w2 HW2.out; have hs2 := hb2.size; clear hb2)
      | (go_at_call 30; (with_reducible refine hF2.mono ?_); clear hF2; rintro e w3 ⟨hb3, rfl⟩; have HW3 : Hid (UBx w w3 k f ia n c oa m d) := HW2.out.step hb3; obtain ⟨y0, y1⟩ := cells2 HW3.out.res; have f0 := Joins.unfrozen_of_block HW3.out.res 0; have f1 := Joins.unfrozen_of_block HW3.out.res 1; clear hb3))
      obtain ⟨_, j1⟩ := two_set HW3.out.res (.int .i64 cd) (.slice none 0 0)
      exact bodyPost_ret (v := .agg #[.int .i64 cd, .slice none 0 0]) (by simp [results, Tryz.results9, go_sem, j1]) rfl (out_code (by omega) HW3.out.bel)
  · rw [if_pos h0]
    obtain ⟨cd, hcd⟩ : ∃ r, r = coinsR cs := ⟨_, rfl⟩
    have hF1 : Calls Tryz.prog 30 #[.slice ca nc cc] ((w.alloc (.cells #[.int .i64 k, .int .i64 f, .slice ia n c, .slice oa m d] 37)).alloc (.cells #[.int .i64 0, .slice none 0 0] 31)) fun e w' => Below ((w.alloc (.cells #[.int .i64 k, .int .i64 f, .slice ia n c, .slice oa m d] 37)).alloc (.cells #[.int .i64 0, .slice none 0 0] 31)).heap.size ((w.alloc (.cells #[.int .i64 k, .int .i64 f, .slice ia n c, .slice oa m d] 37)).alloc (.cells #[.int .i64 0, .slice none 0 0] 31)) w' ∧ e = .returned (.tuple #[.map none, .int .i64 cd]) := hF.mono fun e w' h => by
      rcases h.2 with h1 | h1
      · rw [hcd]; exact ⟨h.1, h1.2⟩
      · exact absurd h1.1 h0
    rw [← hcd] at h0 ⊢
    clear hF hFS hcd h hk hC hS hkc hks
    go_enter Tryz.func9, Tryz.ntmps9
    go_wp2_with (first
      | (go_at_call 30; (with_reducible refine hF1.mono ?_); clear hF1; rintro e w2 ⟨hb2, rfl⟩; have HW2 : Hid (UBx w w2 k f ia n c oa m d) := HW0.out.step hb2; obtain ⟨y0, y1⟩ := cells2 HW2.out.res; have f0 := Joins.unfrozen_of_block HW2.out.res 0; have f1 := Joins.unfrozen_of_block HW2.out.res 1; clear hb2))
    obtain ⟨_, j1⟩ := two_set HW2.out.res (.int .i64 cd) (.slice none 0 0)
    exact bodyPost_ret (v := .agg #[.int .i64 cd, .slice none 0 0]) (by simp [results, Tryz.results9, go_sem, j1]) rfl (out_code (by omega) HW2.out.bel)

end Go.Proofs.YtedchnkeigagcaaGreat
