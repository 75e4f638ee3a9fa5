/- What SignsOf answers: the specification's and the program's. What the specification's SignsOf answers. The marks of lists of numbers, and results that hold one compared. -/
import Derived.Test.YtaopblgnmmhjfaaTextOf
import Derived.Test.YtaopblgnmmhjfaaMk
import Derived.Deep.RegionLaw
namespace Go.Proofs.Ytaopblgnmmhjfaa
open Go.RowKit Go.Maps Go.WideMaps
attribute [local go_sem ↓] Go.wp_at_zero Go.wp_at_succ

theorem Try.infoI64 : (Try.prog.info? 2).map (fun i => (i.zero, i.size, i.bytes)) = some (some (.int .i64 0), 1, 8) := by kernel_rfl

/-- The keys of the first k signatures that signed id. -/
def selK (gs : List (Int × Int)) (id : Int) (k : Nat) : List Int := ((gs.take k).filter fun g => g.2 == id).map Prod.fst

theorem selK_le (gs : List (Int × Int)) (id : Int) (k : Nat) : (selK gs id k).length ≤ k := by
  unfold selK
  rw [List.length_map]
  exact Nat.le_trans (List.length_filter_le _ _) (List.length_take_le _ _)
theorem selK_hit {gs : List (Int × Int)} {id g1 : Int} {n k : Nat} (hn : gs.length = n) (hlt : k < n) (hg : (g1, id) = gs.getD k G0) : selK gs id (k + 1) = selK gs id k ++ [g1] := by
  unfold selK
  rw [take_snoc gs G0 k (by omega), ← hg]
  simp
theorem selK_miss {gs : List (Int × Int)} {id g1 g2 : Int} {n k : Nat} (hn : gs.length = n) (hlt : k < n) (hg : (g1, g2) = gs.getD k G0) (h : ¬ g2 = id) : selK gs id (k + 1) = selK gs id k := by
  unfold selK
  rw [take_snoc gs G0 k (by omega), ← hg]
  simp [h]

/-- Code and keys. -/
def signsR (ss : List ByteArray) (gs : List (Int × Int)) (id : Int) : Int × List Int := if flt ss gs ≠ 0 then (flt ss gs, []) else if inB id 1 ss.length = false then (3, []) else (0, selK gs id gs.length)
theorem signsR_bad {ss : List ByteArray} {gs : List (Int × Int)} {id : Int} {c : Int} (h : c = flt ss gs) (h0 : c ≠ 0) : signsR ss gs id = (c, []) := by unfold signsR; rw [← h, if_pos h0]
theorem signsR_none {ss : List ByteArray} {gs : List (Int × Int)} {id : Int} {n : Nat} (hn : ss.length = n) (h : 0 = flt ss gs) (h0 : inB id 1 n = false) : signsR ss gs id = (3, []) := by unfold signsR; rw [← h, if_neg (by simp), hn, if_pos h0]
theorem signsR_ok {ss : List ByteArray} {gs : List (Int × Int)} {id : Int} {n m : Nat} (hn : ss.length = n) (hm : gs.length = m) (h : 0 = flt ss gs) (h0 : inB id 1 n = true) : signsR ss gs id = (0, selK gs id m) := by unfold signsR; rw [← h, if_neg (by simp), hn, if_neg (by rw [h0]; simp), hm]

def ints (l : List Int) : List Value := l.map (Value.int .i64)

/-- What a result with a list of numbers is: its list lies in new memory. -/
def OutI (w w' : World) (e : Ending) (c : Int) (l : List Int) : Prop :=
  Below w.heap.size w w' ∧ ∃ a cap, e = .returned (.agg #[.int .i64 c, .slice a l.length cap]) ∧ w'.ownsRow w.heap.size 2 1 (.slice a l.length cap) l.length (ints l)

theorem OutI.empty {w w' : World} {c : Int} (h : Below w.heap.size w w') : OutI w w' (.returned (.agg #[.int .i64 c, .slice none 0 0])) c [] := ⟨h, none, 0, rfl, World.ownsRow_nil _ _ _ _⟩

theorem twg_items {w2 : World} {base p : Nat} {gs : List (Int × Int)} {n : Nat} {o : Obj} (hn : gs.length = n) (h : TwG w2 base p gs) : ∃ a cap, (w2.alloc o).cell? ⟨p, 0, none⟩ = some (.slice a n cap) ∧ Hid (GAt (w2.alloc o) a n gs) := by
  obtain ⟨a, cap, h1, _, _, h2⟩ := (h.below (below_box o)).items
  rw [hn] at h1 h2
  exact ⟨a, cap, h1, h2⟩

theorem news1 {W : World} {H : Nat} {u : Value} {t : TypeId} (h : W.heap[H]? = some (.cells #[u] t (0, 0))) : ∀ j v, [u][j]? = some v → W.cell? ((⟨H, 0, none⟩ : Addr).add j) = some v := by
  intro j v hj
  match j, hj with
  | 0, hj => simp at hj; subst hj; simp [Addr.add, World.cell?, h]
theorem one1 {a : Int} : ∀ u ∈ [Value.int .i64 a], u.oneCell' = true := by
  intro u hu
  simp at hu
  subst hu; rfl
theorem heap_alloc_at (w : World) (o : Obj) (n : Nat) (h : n = w.heap.size) : (w.alloc o).heap[n]? = some o := by rw [h]; exact heap_alloc_new w o

set_option maxRecDepth 20000 in
set_option maxHeartbeats 1000000 in
theorem iSignsOf_any (n m tc gc : Nat) (ta ga : Option Addr) (ss : List ByteArray) (gs : List (Int × Int)) (id : Int) (w : World) (hf : Fine ss gs) (h : LedAt w ta n ga m ss gs) :
    Calls Try.prog 31 #[.agg #[.slice ta n tc, .slice ga m gc], .int .i64 id] w fun e w' => OutI w w' e (signsR ss gs id).1 (signsR ss gs id).2 := by
  obtain ⟨c, hc⟩ : ∃ c, c = flt ss gs := ⟨_, rfl⟩
  have HN : Hid (ss.length = n) := h.s.1
  have HM : Hid (gs.length = m) := h.g.1
  by_cases hcz : c = 0
  · subst hcz
    have hrd := read_ok (tc := tc) (gc := gc) (b0 := .int .i64 0) (b1 := .slice none 0 0) (t' := 47) hf h hc
    have hm120 : m ≤ 120 := by have := flt_le hc; rw [HM.out] at this; omega
    clear h hf
    by_cases hi : inB id 1 n = true
    · rw [signsR_ok HN.out HM.out hc hi]
      have HI : Hid (inB id 1 n = true) := hi
      clear hc hi
      obtain ⟨i0, hi0, hz0, hz1, hz2⟩ := info_parts Try.infoI64
      go_enter Try.func31, Try.ntmps31
      go_wp2_with (first
        | (go_at_call 73; refine hrd.mono ?_; rintro e w2 ⟨p, q, top, rfl, hb2, HT⟩; obtain ⟨p0, p1, q0, q1, q2, q3, HB⟩ := box2_facts hb2; obtain ⟨r0, r1, r2, r3, HR⟩ := box2_more (o := .cells #[.pointer (some ⟨p, 0, none⟩), .pointer (some ⟨q, 0, none⟩)] 100) ⟨HB.out.1, HB.out.2.1⟩; obtain ⟨ia, ic, hI, HSA⟩ := tw_items (o := .cells #[.pointer (some ⟨p, 0, none⟩), .pointer (some ⟨q, 0, none⟩)] 100) HN.out HT.out.1; have hat := hasNumber_any p n ic ia id _ hI; rw [HI.out] at hat; obtain ⟨ja, jc, hJ, HGA⟩ := twg_items (o := .cells #[.pointer (some ⟨p, 0, none⟩), .pointer (some ⟨q, 0, none⟩)] 100) HM.out HT.out.2.2.1; clear p0 p1 q0 q1 q2 q3 hb2 hI)
        | (go_at_call 82; refine hat.mono ?_; rintro e w3 ⟨rfl, hw⟩; subst hw))
      clear hrd hat hJ
      have HB0 : Hid (Below (w2.heap.size + 1) (w2.alloc (.cells #[.pointer (some ⟨p, 0, none⟩), .pointer (some ⟨q, 0, none⟩)] 100)) (w2.alloc (.cells #[.pointer (some ⟨p, 0, none⟩), .pointer (some ⟨q, 0, none⟩)] 100))) := Below.refl _ _
      go_loopw [7, 31] (fun v i wr => ∃ k : Nat, k ≤ m ∧ i = .int .i64 k ∧ Hid (Below (w2.heap.size + 1) (w2.alloc (.cells #[.pointer (some ⟨p, 0, none⟩), .pointer (some ⟨q, 0, none⟩)] 100)) wr) ∧ ∃ a cap, v = .slice a (selK gs id k).length cap ∧ Hid (wr.ownsRow (w2.heap.size + 1) 2 1 (.slice a (selK gs id k).length cap) (selK gs id k).length (ints (selK gs id k)))) (fun _ i _ => m - (intOf i).toNat)
      case atStart => exact ⟨0, Nat.zero_le _, rfl, HB0, none, 0, rfl, World.ownsRow_nil _ _ _ _⟩
      case round =>
        obtain ⟨k, hk, rfl, hbel, a, cap, rfl, HO⟩ := hrel
        clear HB0
        by_cases hlt : k < m
        · rcases HGA.out.2 with h0 | ⟨b, off, ha, hb, hcl⟩
          · omega
          subst ha
          obtain ⟨g, hg⟩ : ∃ g, g = gs.getD k G0 := ⟨_, rfl⟩
          have hcx := hcl k hlt
          rw [← hg] at hcx
          obtain ⟨g1, g2⟩ := g
          have c0 := (hbel.out.cell (p := ⟨b, off + k * 2, none⟩) (by simpa using hb)).trans hcx.1
          have c1 := (hbel.out.cell (p := ⟨b, off + k * 2 + 1, none⟩) (by simpa using hb)).trans hcx.2
          have HG : Hid ((g1, g2) = gs.getD k G0) := hg
          have hsl := selK_le gs id k
          have hbsz := hbel.out.size
          simp only [World.size_alloc] at hbsz
          clear hg hcl hcx
          by_cases hid : g2 = id
          · subst hid
            go_wp2_with (first
              | (at_builtin; go_must (refine wpList_append_lies _ (by rfl) _ _ 45 (by rfl) (w2.heap.size + 1) 2 i0 (.int .i64 0) 1 8 Try.underlying45 hi0 hz0 hz1 hz2 rfl (by omega) (.slice a (selK gs g2 k).length cap) (selK gs g2 k).length (ints (selK gs g2 k)) (by rfl) ((HO.out.alloc _).alloc _) ⟨wr.heap.size + 1, 0, none⟩ 1 1 [.int .i64 g1] (by rfl) (by rfl) (news1 (by first | exact heap_alloc_at _ _ _ (by simp) | simp)) one1 (by omega) (by unfold maxLen; omega) (by omega) (by simp; omega) (wr.heap.size + 2) (by simp) ?_)))
            intro g cap' w3 ho3 hg3 hat hlt3
            have R1 : Hid (Below (w2.heap.size + 1) (w2.alloc (.cells #[.pointer (some ⟨p, 0, none⟩), .pointer (some ⟨q, 0, none⟩)] 100)) w3) := ((hbel.out.alloc (by omega) _).alloc (by simp; omega) _).grown hg3 (by simp; omega) (fun j hj => (HO.out.lt j hj).1)
            have R2 := selK_hit HM.out hlt HG.out
            have R3 : Hid (w3.ownsRow (w2.heap.size + 1) 2 1 (.slice (some ⟨g, 0, none⟩) (selK gs g2 (k + 1)).length cap') (selK gs g2 (k + 1)).length (ints (selK gs g2 (k + 1)))) := by
              have e1 : (selK gs g2 (k + 1)).length = (selK gs g2 k).length + 1 := by rw [R2]; simp
              have e2 : ints (selK gs g2 (k + 1)) = ints (selK gs g2 k) ++ [.int .i64 g1] := by rw [R2]; simp [ints]
              rw [e1, e2]
              exact ho3
            have R4 : (selK gs g2 k).length + 1 = (selK gs g2 (k + 1)).length := by rw [R2]; simp
            have HR4 : Hid ((selK gs g2 k).length + 1 = (selK gs g2 (k + 1)).length) := R4
            clear ho3 hg3 hat HO R2 R4
            go_wp2
            go_roundw
            case rel => exact ⟨k + 1, by omega, by go_num, R1, some ⟨g, 0, none⟩, cap', by rw [← HR4.out], R3⟩
            case measure => simp [intOf]; omega
          · have hne : (g2 == id) = false := by simp [hid]
            have R2 := selK_miss HM.out hlt HG.out hid
            have R1 : Hid (Below (w2.heap.size + 1) (w2.alloc (.cells #[.pointer (some ⟨p, 0, none⟩), .pointer (some ⟨q, 0, none⟩)] 100)) (wr.alloc (.cells #[.int .i64 g1, .int .i64 g2] 115))) := hbel.out.alloc (by omega) _
            have R3 : Hid ((wr.alloc (.cells #[.int .i64 g1, .int .i64 g2] 115)).ownsRow (w2.heap.size + 1) 2 1 (.slice a (selK gs id (k + 1)).length cap) (selK gs id (k + 1)).length (ints (selK gs id (k + 1)))) := by rw [R2]; exact HO.out.alloc _
            have HR2 : Hid (selK gs id (k + 1) = selK gs id k) := R2
            clear R2 HO
            go_wp2
            go_roundw
            case rel => exact ⟨k + 1, by omega, by go_num, R1, a, cap, by rw [HR2.out], R3⟩
            case measure => simp [intOf]; omega
        · have hkm : k = m := by omega
          subst hkm
          obtain ⟨x0, x1, x2, x3, HX⟩ := res_cells HR.out.1 hbel.out (by have := lt_of_block HB.out.1; omega)
          go_wp2
          obtain ⟨s0, s1, s2⟩ := two_set HX.out (.int .i64 0) (.slice a (selK gs id k).length cap)
          have hbw : Below w.heap.size w wr := HR.out.2.trans (hbel.out.mono (by have := HB.out.2.1.size; omega))
          have hsz2 : w.heap.size + 1 < w2.heap.size := lt_of_block HB.out.1
          refine bodyPost_ret (v := .agg #[.int .i64 0, .slice a (selK gs id k).length cap]) (by simp [results, Try.results31, go_sem, s0, s1]) rfl ⟨below_res hbw _ _, a, cap, rfl, ?_⟩
          refine Joins.ownsRow_le (base := w2.heap.size + 1) ?_ (by omega)
          exact ownsRow_setCell_below (ownsRow_setCell_below HO.out (a := ⟨w.heap.size + 1, 0, none⟩) (show w.heap.size + 1 < _ by omega) _) (a := ⟨w.heap.size + 1, 1, none⟩) (show w.heap.size + 1 < _ by omega) _
    · have hi' : inB id 1 n = false := by simpa using hi
      rw [signsR_none HN.out hc hi']
      have HI : Hid (inB id 1 n = false) := hi'
      clear hc hi hi'
      go_enter Try.func31, Try.ntmps31
      go_wp2_with (first
        | (go_at_call 73; refine hrd.mono ?_; rintro e w2 ⟨p, q, top, rfl, hb2, HT⟩; obtain ⟨p0, p1, q0, q1, q2, q3, HB⟩ := box2_facts hb2; obtain ⟨r0, r1, r2, r3, HR⟩ := box2_more (o := .cells #[.pointer (some ⟨p, 0, none⟩), .pointer (some ⟨q, 0, none⟩)] 100) ⟨HB.out.1, HB.out.2.1⟩; obtain ⟨ia, ic, hI, HSA⟩ := tw_items (o := .cells #[.pointer (some ⟨p, 0, none⟩), .pointer (some ⟨q, 0, none⟩)] 100) HN.out HT.out.1; have hat := hasNumber_any p n ic ia id _ hI; rw [HI.out] at hat; clear p0 p1 q0 q1 q2 q3 hb2 hI)
        | (go_at_call 82; refine hat.mono ?_; rintro e w3 ⟨rfl, hw⟩; subst hw))
      obtain ⟨s0, s1, s2⟩ := two_set HR.out.1 (.int .i64 3) (.slice none 0 0)
      exact bodyPost_ret (v := .agg #[.int .i64 3, .slice none 0 0]) (by simp [results, Try.results31, go_sem, s0, s1]) rfl (OutI.empty (below_res HR.out.2 _ _))
  · have hrd := read_bad (tc := tc) (gc := gc) (b0 := .int .i64 0) (b1 := .slice none 0 0) (t' := 47) hf h hc hcz
    rw [signsR_bad hc hcz]
    clear hc h hf
    go_enter Try.func31, Try.ntmps31
    go_wp2_with (first
      | (go_at_call 73; refine hrd.mono ?_; rintro e w2 ⟨rfl, hb2⟩; obtain ⟨p0, p1, q0, q1, q2, q3, HB⟩ := box2_facts hb2; obtain ⟨r0, r1, r2, r3, HR⟩ := box2_more (o := .cells #[.pointer none, .pointer none] 100) ⟨HB.out.1, HB.out.2.1⟩; clear p0 p1 q0 q1 q2 q3 hb2))
    obtain ⟨s0, s1, s2⟩ := two_set HR.out.1 (.int .i64 c) (.slice none 0 0)
    exact bodyPost_ret (v := .agg #[.int .i64 c, .slice none 0 0]) (by simp [results, Try.results31, go_sem, s0, s1]) rfl (OutI.empty (below_res HR.out.2 _ _))

end Go.Proofs.Ytaopblgnmmhjfaa

namespace Go.Proofs.Ytaopblgnmmhjfaa
open Go.RowKit Go.Maps Go.WideMaps
attribute [local go_sem ↓] Go.wp_at_zero Go.wp_at_succ

/-- The result under way lies in block O, its list in memory of its own. -/
def Under (w2 wr : World) (gs : List (Int × Int)) (id : Int) (k : Nat) (a : Option Addr) (cap : Nat) : Prop :=
  wr.heap[w2.heap.size]? = some (.cells #[.int .i64 0, .slice a (selK gs id k).length cap] 47 (0, 0)) ∧ Below w2.heap.size w2 wr ∧
  wr.ownsRow (w2.heap.size + 1) 2 1 (.slice a (selK gs id k).length cap) (selK gs id k).length (ints (selK gs id k))

theorem Under.facts {w2 wr : World} {gs : List (Int × Int)} {id : Int} {k : Nat} {a : Option Addr} {cap : Nat} (h : Under w2 wr gs id k a cap) :
    wr.cell? ⟨w2.heap.size, 0, none⟩ = some (.int .i64 0) ∧ wr.cell? ⟨w2.heap.size, 1, none⟩ = some (.slice a (selK gs id k).length cap) ∧ w2.heap.size + 1 ≤ wr.heap.size ∧ wr.frozen? ⟨w2.heap.size, 1, none⟩ = false :=
  ⟨by unfold World.cell?; rw [h.1]; rfl, by unfold World.cell?; rw [h.1]; rfl, lt_of_block h.1, Joins.unfrozen_of_block h.1 1⟩

theorem Under.hit {w2 wr w3 : World} {gs : List (Int × Int)} {id g1 : Int} {k n : Nat} {a : Option Addr} {cap g cap' : Nat} {o : Obj} (h : Under w2 wr gs id k a cap) (hn : gs.length = n) (hlt : k < n) (hg : (g1, id) = gs.getD k G0)
    (ho : w3.ownsRow (w2.heap.size + 1) 2 1 (.slice (some ⟨g, 0, none⟩) ((selK gs id k).length + 1) cap') ((selK gs id k).length + 1) (ints (selK gs id k) ++ [.int .i64 g1]))
    (hgr : (wr.alloc o).drew.grownBy w3 (Value.ownBlock (.slice a (selK gs id k).length cap))) :
    w3.cell? ⟨w2.heap.size, 0, none⟩ = some (.int .i64 0) ∧ w3.cell? ⟨w2.heap.size, 1, none⟩ = some (.slice a (selK gs id k).length cap) ∧ w3.frozen? ⟨w2.heap.size, 1, none⟩ = false ∧
      Hid (Under w2 (w3.setCell ⟨w2.heap.size, 1, none⟩ (.slice (some ⟨g, 0, none⟩) ((selK gs id k).length + 1) cap')) gs id (k + 1) (some ⟨g, 0, none⟩) cap') := by
  obtain ⟨h1, h2, h3⟩ := h
  have hl := lt_of_block h1
  have hne : Value.ownBlock (.slice a (selK gs id k).length cap) ≠ some w2.heap.size := fun e => by have := (h3.lt _ e).1; omega
  have a1 : (wr.alloc o).heap[w2.heap.size]? = some (.cells #[.int .i64 0, .slice a (selK gs id k).length cap] 47 (0, 0)) := (Below.heap_alloc wr _ _ hl).trans h1
  have b1 := (hgr.block w2.heap.size (by show _ < (wr.alloc o).heap.size; simp; omega) (Ne.symm hne)).trans a1
  have e1 := selK_hit hn hlt hg
  have e2 : (selK gs id (k + 1)).length = (selK gs id k).length + 1 := by rw [e1]; simp
  have e3 : ints (selK gs id (k + 1)) = ints (selK gs id k) ++ [.int .i64 g1] := by rw [e1]; simp [ints]
  have hbel : Below w2.heap.size w2 w3 := ((h2.alloc (Nat.le_of_lt hl) o).drew).grown hgr (by show _ ≤ (wr.alloc o).heap.size; simp; omega) (fun j hj => by have := (h3.lt j hj).1; omega)
  refine ⟨by unfold World.cell?; rw [b1]; rfl, by unfold World.cell?; rw [b1]; rfl, Joins.unfrozen_of_block b1 1, ?_, hbel.setCell (p := ⟨w2.heap.size, 1, none⟩) (Nat.le_refl _) _, ?_⟩
  · rw [e2]
    have := Joins.block_setCell (i := 1) b1 (.slice (some ⟨g, 0, none⟩) ((selK gs id k).length + 1) cap')
    simpa using this
  · rw [e2, e3]
    exact ownsRow_setCell_below ho (a := ⟨w2.heap.size, 1, none⟩) (show w2.heap.size < _ by omega) _

set_option maxRecDepth 20000 in
set_option maxHeartbeats 1000000 in
theorem sSignsOf_any (n m tc gc : Nat) (ta ga : Option Addr) (ss : List ByteArray) (gs : List (Int × Int)) (id : Int) (w : World) (htc : n ≤ tc) (hgc : m ≤ gc) (htm : tc ≤ maxLen) (hgm : gc ≤ maxLen) (hf : Fine ss gs) (h : LedAt w ta n ga m ss gs) :
    Calls Try.prog 45 #[.agg #[.slice ta n tc, .slice ga m gc], .int .i64 id] w fun e w' => OutI w w' e (signsR ss gs id).1 (signsR ss gs id).2 := by
  have hfl := l1Fault_box n m tc gc ta ga ss gs w (.int .i64 0) (.slice none 0 0) 47 htc hgc htm hgm hf h
  have HL : Hid (LedAt w ta n ga m ss gs) := h
  have HN : Hid (ss.length = n) := h.s.1
  have HM : Hid (gs.length = m) := h.g.1
  clear h hf htc hgc htm hgm
  obtain ⟨c, hc⟩ : ∃ c, c = flt ss gs := ⟨_, rfl⟩
  rw [← hc] at hfl
  by_cases hcz : c = 0
  · subst hcz
    have hm120 : m ≤ 120 := by have := flt_le hc; rw [HM.out] at this; omega
    by_cases hi : inB id 1 n = true
    · rw [signsR_ok HN.out HM.out hc hi]
      have HI : Hid (inB id 1 n = true) := hi
      clear hc hi
      obtain ⟨i0, hi0, hz0, hz1, hz2⟩ := info_parts Try.infoI64
      go_enter Try.func45, Try.ntmps45
      go_wp2_with (first
        | (go_at_call 79; refine hfl.mono ?_; rintro e w2 ⟨rfl, hb2⟩; obtain ⟨p0, p1, q0, q1, q2, q3, HB⟩ := box2_facts hb2; have hat := l1Id_any w.heap.size n tc _ id w2 p0; rw [HI.out] at hat)
        | (go_at_call 90; refine hat.mono ?_; rintro e w3 ⟨rfl, hw⟩; have hw2 := hw.symm; subst hw2))
      clear hfl hat
      have hlw : w.heap.size + 1 < w2.heap.size := lt_of_block HB.out.1
      go_loopw [7] (fun i wr => ∃ k : Nat, k ≤ m ∧ i = .int .i64 k ∧ ∃ a cap, Under w2 wr gs id k a cap) (fun i _ => m - (intOf i).toNat)
      case atStart =>
        refine ⟨0, Nat.zero_le _, rfl, none, 0, ?_, (Below.refl _ _).alloc (Nat.le_refl _) _, World.ownsRow_nil _ _ _ _⟩
        exact heap_alloc_new _ _
      case round =>
        obtain ⟨k, hk, rfl, a, cap, hU⟩ := hrel
        obtain ⟨u0, u1, u2, u3⟩ := hU.facts
        have v1 := (hU.2.1.cell (p := ⟨w.heap.size, 1, none⟩) (show w.heap.size < _ by omega)).trans p1
        have hsl := selK_le gs id k
        have HU : Hid (Under w2 wr gs id k a cap) := hU
        clear hU
        by_cases hlt : k < m
        · rcases HL.out.g.2 with h0 | ⟨b, off, ha, hb, hcl⟩
          · omega
          subst ha
          obtain ⟨g, hg⟩ : ∃ g, g = gs.getD k G0 := ⟨_, rfl⟩
          have hcx := hcl k hlt
          rw [← hg] at hcx
          obtain ⟨g1, g2⟩ := g
          have hbw2 : Below w.heap.size w wr := HB.out.2.1.trans (HU.out.2.1.mono (by omega))
          have c0 := (hbw2.cell (p := ⟨b, off + k * 2, none⟩) hb).trans hcx.1
          have c1 := (hbw2.cell (p := ⟨b, off + k * 2 + 1, none⟩) hb).trans hcx.2
          have HG : Hid ((g1, g2) = gs.getD k G0) := hg
          have hki : (k : Int) < (m : Int) := by omega
          have u4 : w2.heap.size < wr.heap.size := by omega
          have u5 : w.heap.size < wr.heap.size := by omega
          have u6 : b < wr.heap.size := Nat.lt_of_lt_of_le hb hbw2.size
          clear hg hcl hcx hbw2
          by_cases hid : g2 = id
          · subst hid
            go_wp2
            go_region_law
              ((refine step_append_lies _ (by rfl) _ _ _ (by rfl) (w2.heap.size + 1) 2 i0 (.int .i64 0) 1 8 Try.underlying45 hi0 hz0 hz1 hz2 rfl (by omega) (.slice a (selK gs g2 k).length cap) (selK gs g2 k).length (ints (selK gs g2 k)) (by rfl) (by first | exact (HU.out.2.2.alloc _).drew | exact HU.out.2.2.drew.alloc _) ⟨wr.heap.size, 0, none⟩ 1 1 [.int .i64 g1] (by rfl) (by rfl) (news1 (by first | exact heap_alloc_new wr _ | exact heap_alloc_new wr.drew _)) one1 (by omega) (by unfold maxLen; omega) (by omega) (by simp; omega) (wr.heap.size + 1) (by simp) ?_; intro g cap' w3 ho3 hg3 hat hlt3; obtain ⟨y0, y1, y2, HY⟩ := HU.out.hit HM.out hlt HG.out ho3 hg3; clear ho3 hg3 hat hlt3))
            all_goals
              go_wp2
              go_roundw
              case rel => exact ⟨k + 1, by omega, by go_num, _, _, HY.out⟩
              case measure => simp [intOf]; omega
          · have hne : (g2 == id) = false := by simp [hid]
            have R2 : Hid (Under w2 wr gs id (k + 1) a cap) := by
              have e := selK_miss HM.out hlt HG.out hid
              unfold Under
              rw [e]
              exact HU.out
            go_wp2
            go_roundw
            case rel => exact ⟨k + 1, by omega, by go_num, a, cap, R2.out⟩
            case measure => simp [intOf]; omega
        · have hkm : k = m := by omega
          subst hkm
          obtain ⟨x0, x1, x2, x3, HX⟩ := res_cells HB.out.1 HU.out.2.1 hlw
          go_wp2
          obtain ⟨s0, s1, s2⟩ := two_set HX.out (.int .i64 0) (.slice a (selK gs id k).length cap)
          have hbw : Below w.heap.size w wr := HB.out.2.1.trans (HU.out.2.1.mono (by omega))
          refine bodyPost_ret (v := .agg #[.int .i64 0, .slice a (selK gs id k).length cap]) (by simp [results, Try.results45, go_sem, s0, s1]) rfl ⟨below_res hbw _ _, a, cap, rfl, ?_⟩
          refine Joins.ownsRow_le (base := w2.heap.size + 1) ?_ (by omega)
          exact ownsRow_setCell_below (ownsRow_setCell_below HU.out.2.2 (a := ⟨w.heap.size + 1, 0, none⟩) (show w.heap.size + 1 < _ by omega) _) (a := ⟨w.heap.size + 1, 1, none⟩) (show w.heap.size + 1 < _ by omega) _
    · have hi' : inB id 1 n = false := by simpa using hi
      rw [signsR_none HN.out hc hi']
      have HI : Hid (inB id 1 n = false) := hi'
      clear hc hi hi'
      go_enter Try.func45, Try.ntmps45
      go_wp2_with (first
        | (go_at_call 79; refine hfl.mono ?_; rintro e w2 ⟨rfl, hb2⟩; obtain ⟨p0, p1, q0, q1, q2, q3, HB⟩ := box2_facts hb2; have hat := l1Id_any w.heap.size n tc _ id w2 p0; rw [HI.out] at hat)
        | (go_at_call 90; refine hat.mono ?_; rintro e w3 ⟨rfl, hw⟩; have hw2 := hw.symm; subst hw2))
      obtain ⟨s0, s1, s2⟩ := two_set HB.out.1 (.int .i64 3) (.slice none 0 0)
      exact bodyPost_ret (v := .agg #[.int .i64 3, .slice none 0 0]) (by simp [results, Try.results45, go_sem, s0, s1]) rfl (OutI.empty (below_res HB.out.2.1 _ _))
  · rw [signsR_bad hc hcz]
    clear hc
    go_enter Try.func45, Try.ntmps45
    go_wp2_with (first
      | (go_at_call 79; refine hfl.mono ?_; rintro e w2 ⟨rfl, hb2⟩; obtain ⟨p0, p1, q0, q1, q2, q3, HB⟩ := box2_facts hb2))
    obtain ⟨s0, s1, s2⟩ := two_set HB.out.1 (.int .i64 c) (.slice none 0 0)
    exact bodyPost_ret (v := .agg #[.int .i64 c, .slice none 0 0]) (by simp [results, Try.results45, go_sem, s0, s1]) rfl (OutI.empty (below_res HB.out.2.1 _ _))

end Go.Proofs.Ytaopblgnmmhjfaa

namespace Go.Proofs.Ytaopblgnmmhjfaa
open Go.RowKit Go.Maps Go.WideMaps

def IAt (w : World) (a : Option Addr) (n : Nat) (l : List Int) : Prop :=
  l.length = n ∧ (n = 0 ∨ ∃ b off, a = some ⟨b, off, none⟩ ∧ b < w.heap.size ∧ ∀ j, j < n → w.cell? ⟨b, off + j, none⟩ = some (.int .i64 (l.getD j 0)))

theorem IAt.below {w w' : World} {a : Option Addr} {n : Nat} {l : List Int} (h : IAt w a n l) {B : Nat} (hb : Below B w w') (hB : w.heap.size ≤ B) : IAt w' a n l := by
  obtain ⟨hn, h | ⟨b, off, rfl, hlt, hc⟩⟩ := h
  · exact ⟨hn, .inl h⟩
  · exact ⟨hn, .inr ⟨b, off, rfl, Nat.lt_of_lt_of_le hlt hb.size, fun j hj => (hb.cell (p := ⟨b, off + j, none⟩) (Nat.lt_of_lt_of_le hlt hB)).trans (hc j hj)⟩⟩

theorem IAt.owned {w : World} {base n c : Nat} {a : Option Addr} {l : List Int} (h : w.ownsRow base 2 1 (.slice a n c) n (ints l)) (hn : l.length = n) : IAt w a n l := by
  refine ⟨hn, ?_⟩
  rcases id h.2 with ⟨_, h0⟩ | ⟨g, cap, cur, e, _⟩
  · exact .inl h0
  · simp at e
    obtain ⟨rfl, rfl⟩ := e
    refine .inr ⟨g, 0, rfl, (h.lt g rfl).2, fun j hj => ?_⟩
    rw [Nat.zero_add, h.cellAt j (by omega)]
    simp [ints, List.getD, show j < l.length by omega]

set_option maxHeartbeats 400000 in
theorem eqI_any (a b : Option Addr) (n c1 c2 : Nat) (l : List Int) (w : World) (hl : n ≤ 1048576) (ha : IAt w a n l) (hb : IAt w b n l) :
    Calls Try.prog 102 #[.slice a n c1, .slice b n c2] w fun e w' => e = .returned (.bool true) ∧ Below w.heap.size w w' := by
  have HA : Hid (IAt w a n l) := ha
  have HB : Hid (IAt w b n l) := hb
  clear ha hb
  go_enter Try.func102, Try.ntmps102
  go_wp2
  go_loopw [5] (fun i wr => ∃ k : Nat, k ≤ n ∧ i = .int .i64 k ∧ Below w.heap.size w wr) (fun i _ => n - (intOf i).toNat)
  case atStart => exact ⟨0, Nat.zero_le _, rfl, Below.refl _ _⟩
  case round =>
    obtain ⟨k, hk, rfl, hbel⟩ := hrel
    by_cases hlt : k < n
    · rcases HA.out.2 with h0 | ⟨b0, o0, e0, l0, d0⟩
      · omega
      subst e0
      rcases HB.out.2 with h0 | ⟨b1, o1, e1, l1, d1⟩
      · omega
      subst e1
      obtain ⟨s, hs⟩ : ∃ s, s = l.getD k 0 := ⟨_, rfl⟩
      have x0 := (hbel.cell (p := ⟨b0, o0 + k, none⟩) l0).trans (d0 k hlt)
      have x1 := (hbel.cell (p := ⟨b1, o1 + k, none⟩) l1).trans (d1 k hlt)
      rw [← hs] at x0 x1
      clear hs d0 d1
      have hki : (k : Int) < (n : Int) := by omega
      go_wp2
      go_quiet (fail)
      go_wp2
      go_roundw
      case rel => exact ⟨k + 1, by omega, by go_num, hbel.trans (Joins.below_draws _ _ _)⟩
      case measure => simp [intOf]; omega
    · go_wp2
      go_ret
      exact ⟨rfl, hbel⟩

set_option maxHeartbeats 400000 in
theorem eqIR_any (a b : Option Addr) (n c1 c2 : Nat) (p : Int) (l : List Int) (w : World) (hl : n ≤ 1048576) (ha : IAt w a n l) (hb : IAt w b n l) :
    Calls Try.prog 46 #[.agg #[.int .i64 p, .slice a n c1], .agg #[.int .i64 p, .slice b n c2]] w fun e w' => e = .returned (.bool true) ∧ Below w.heap.size w w' := by
  have hbx : Below w.heap.size w ((w.alloc (.cells #[.int .i64 p, .slice a n c1] 47)).alloc (.cells #[.int .i64 p, .slice b n c2] 47)) := below_box2 _ _
  have hE := eqI_any a b n c1 c2 l _ hl (ha.below hbx (Nat.le_refl _)) (hb.below hbx (Nat.le_refl _))
  have HBX : Hid (Below w.heap.size w ((w.alloc (.cells #[.int .i64 p, .slice a n c1] 47)).alloc (.cells #[.int .i64 p, .slice b n c2] 47))) := hbx
  clear hbx ha hb
  go_enter Try.func46, Try.ntmps46
  go_wp2_with (first | (go_at_call 102; refine hE.mono ?_; rintro e w2 ⟨rfl, hb2⟩))
  go_ret
  exact ⟨rfl, HBX.out.trans (hb2.mono (by simp; omega))⟩

def mkI (k n : Nat) : List Value := (List.range n).map fun j => .int .i64 (k + j : Nat)
theorem mkI_of {xs : List Value} {k n : Nat} (hl : xs.length = n * 1) (h : ∀ j, j < n → xs[j]? = some (.int .i64 (k + j : Nat))) : xs = mkI k n := by
  apply List.ext_getElem?
  intro j
  by_cases hj : j < n
  · rw [h j hj]; simp [mkI, hj]
  · rw [List.getElem?_eq_none (by omega), List.getElem?_eq_none (by simp [mkI]; omega)]
theorem mkI_at {k n j : Nat} (hj : j < n) : (mkI k n)[j]? = some (.int .i64 (k + j : Nat)) := by simp [mkI, hj]

theorem markI_round {w wr : World} {base g n cap j k : Nat} (hlt : j < n) (hg : w.grownBy wr (some g))
    (hx : ∃ xs, wr.ownsRow base 2 1 (.slice (some ⟨g, 0, none⟩) n cap) n xs ∧ ∀ t, t < j → xs[t]? = some (.int .i64 (k + t : Nat))) {a : Int} (ha : a = (k + j : Nat)) :
    ∃ u, wr.cell? ⟨g, j, none⟩ = some u ∧ wr.frozen? ⟨g, j, none⟩ = false ∧
      Hid (w.grownBy (wr.setCell ⟨g, j, none⟩ (.int .i64 a)) (some g) ∧ ∃ xs, (wr.setCell ⟨g, j, none⟩ (.int .i64 a)).ownsRow base 2 1 (.slice (some ⟨g, 0, none⟩) n cap) n xs ∧ ∀ t, t < j + 1 → xs[t]? = some (.int .i64 (k + t : Nat))) := by
  subst ha
  obtain ⟨xs, ho, hxs⟩ := hx
  have hxl := ho.1
  obtain ⟨r1, r2⟩ := ho.stored j (.int .i64 (k + j : Nat))
  refine ⟨_, (ho.cellAt j (by omega)).trans (List.getElem?_eq_getElem (by omega)), ho.frozenAt j, ?_, _, r1, fun t ht => ?_⟩
  · exact ⟨r2.os.trans hg.os, r2.tape.trans hg.tape, r2.output.trans hg.output, Nat.le_trans hg.size r2.size,
      fun b hbl hne => (r2.block b (Nat.lt_of_lt_of_le hbl hg.size) hne).trans (hg.block b hbl hne)⟩
  · by_cases e : j = t
    · subst e; rw [List.getElem?_set_self (by omega)]
    · rw [List.getElem?_set_ne e, hxs t (by omega)]

set_option maxHeartbeats 400000 in
theorem markI_any (v : Value) (n base k : Nat) (xs : List Value) (w : World) (hkn : k + n ≤ 4000000) (ho : w.ownsRow base 2 1 v n xs) :
    Calls Try.prog 103 #[v, .int .i64 k] w fun e w' => e = .returned (.int .i64 (k + n : Nat)) ∧ w'.ownsRow base 2 1 v n (mkI k n) ∧ w.grownBy w' v.ownBlock := by
  rcases id ho.2 with ⟨rfl, rfl⟩ | ⟨g, cap, cur, rfl, hbg, hgg, hnc, hcm, _⟩
  · go_enter Try.func103, Try.ntmps103
    go_wp2
    refine wp_loop_rounds 1 ?_
    rw [rounds_succ]
    go_wp2
    go_ret
    exact ⟨rfl, World.ownsRow_nil _ _ _ _, World.grownBy.refl _ _⟩
  · have HO : Hid (w.ownsRow base 2 1 (.slice (some ⟨g, 0, none⟩) n cap) n xs) := ho
    clear ho hbg hgg hnc hcm
    go_enter Try.func103, Try.ntmps103
    go_wp2
    go_loopw [1, 5] (fun a i wr => ∃ j : Nat, j ≤ n ∧ i = .int .i64 j ∧ a = .int .i64 (k + j : Nat) ∧ Hid (w.grownBy wr (some g)) ∧ Hid (∃ xs, wr.ownsRow base 2 1 (.slice (some ⟨g, 0, none⟩) n cap) n xs ∧ ∀ t, t < j → xs[t]? = some (.int .i64 (k + t : Nat)))) (fun _ i _ => n - (intOf i).toNat)
    case atStart => exact ⟨0, Nat.zero_le _, rfl, rfl, World.grownBy.refl _ _, xs, HO.out, fun t ht => by omega⟩
    case round =>
      obtain ⟨j, hj, rfl, rfl, HG, HX⟩ := hrel
      by_cases hlt : j < n
      · obtain ⟨u, c0, f0, HR⟩ := markI_round hlt HG.out HX.out (a := (k : Int) + (j : Int)) (by omega)
        go_wp2
        go_roundw
        case rel => exact ⟨j + 1, by omega, by go_num, by go_num, HR.out.1, HR.out.2⟩
        case measure => simp [intOf]; omega
      · go_wp2
        go_ret
        obtain ⟨ys, h1, h2⟩ := HX.out
        have hjn : j = n := by omega
        subst hjn
        refine ⟨rfl, ?_, HG.out⟩
        rw [← mkI_of h1.1 h2]
        exact h1

set_option maxHeartbeats 400000 in
theorem heldI_any (v : Value) (n base k : Nat) (w : World) (hkn : k + n ≤ 4000000) (ho : w.ownsRow base 2 1 v n (mkI k n)) :
    Calls Try.prog 104 #[v, .int .i64 k] w fun e w' => e = .returned (.int .i64 (k + n : Nat)) ∧ w' = w := by
  rcases id ho.2 with ⟨rfl, rfl⟩ | ⟨g, cap, cur, rfl, hbg, hgg, hnc, hcm, _⟩
  · go_enter Try.func104, Try.ntmps104
    go_wp2
    refine wp_loop_rounds 1 ?_
    rw [rounds_succ]
    go_wp2
    go_ret
    exact ⟨rfl, rfl⟩
  · have HO : Hid (w.ownsRow base 2 1 (.slice (some ⟨g, 0, none⟩) n cap) n (mkI k n)) := ho
    clear ho hbg hgg hnc hcm
    go_enter Try.func104, Try.ntmps104
    go_wp2
    go_loop [1, 5] (fun a i => ∃ j : Nat, j ≤ n ∧ i = .int .i64 j ∧ a = .int .i64 (k + j : Nat)) (fun _ i => n - (intOf i).toNat)
    case atStart => exact ⟨0, Nat.zero_le _, rfl, rfl⟩
    case round =>
      obtain ⟨j, hj, rfl, rfl⟩ := hrel
      by_cases hlt : j < n
      · have c0 : w.cell? ⟨g, j, none⟩ = some (.int .i64 ((k : Int) + (j : Int))) := (HO.out.cellAt j (by omega)).trans (by rw [mkI_at hlt]; simp)
        go_wp2
        go_round
        case rel => exact ⟨j + 1, by omega, by go_num, by go_num⟩
        case measure => simp [intOf]; omega
      · go_wp2
        go_ret
        have hjn : j = n := by omega
        subst hjn
        exact ⟨rfl, rfl⟩

/-- A list of numbers in memory of its own, blocks from 'lo' to 'hi'. -/
structure Own1 (w : World) (lo hi : Nat) (a : Option Addr) (n c : Nat) (xs : List Value) : Prop where
  t : w.ownsRow lo 2 1 (.slice a n c) n xs
  tb : ∀ b, Value.ownBlock (.slice a n c) = some b → b < hi
theorem Own1.chg {w w' : World} {lo hi n c : Nat} {a : Option Addr} {xs : List Value} (h : Own1 w lo hi a n c xs) {lo' hi' : Nat} (hc : Chg w w' lo' hi') (hd : hi ≤ lo' ∨ hi' ≤ lo) : Own1 w' lo hi a n c xs :=
  ⟨hc.row h.t (fun k hk => by have := h.tb k hk; have := (h.t.lt k hk).1; omega), h.tb⟩
theorem Own1.below {w w' : World} {lo hi n c : Nat} {a : Option Addr} {xs : List Value} (h : Own1 w lo hi a n c xs) (hb : Below w.heap.size w w') : Own1 w' lo hi a n c xs :=
  h.chg (Chg.of_below hb hi hi) (.inl (Nat.le_refl _))

set_option maxHeartbeats 400000 in
theorem markIR_any (a : Option Addr) (n c lo hi k : Nat) (xs : List Value) (p : Int) (w : World) (hkn : k + n ≤ 4000000) (h : Own1 w lo hi a n c xs) :
    Calls Try.prog 47 #[.agg #[.int .i64 p, .slice a n c], .int .i64 k] w fun e w' => e = .returned (.int .i64 (k + n : Nat)) ∧ Own1 w' lo hi a n c (mkI k n) ∧ Chg w w' lo hi := by
  have hL := markI_any (.slice a n c) n lo k xs (w.alloc (.cells #[.int .i64 p, .slice a n c] 47)) hkn (h.t.alloc _)
  have H : Hid (Own1 w lo hi a n c xs) := h
  clear h
  go_enter Try.func47, Try.ntmps47
  go_wp2_with (first | (go_at_call 103; refine hL.mono ?_; rintro e w2 ⟨rfl, ho2, hg2⟩))
  go_ret
  exact ⟨rfl, ⟨ho2, H.out.tb⟩, (Chg.of_below (below_box _) lo hi).trans (Chg.of_grown hg2 (fun k hk => ⟨(H.out.t.lt k hk).1, H.out.tb k hk⟩))⟩

set_option maxHeartbeats 400000 in
theorem heldIR_any (a : Option Addr) (n c lo hi k : Nat) (p : Int) (w : World) (hkn : k + n ≤ 4000000) (h : Own1 w lo hi a n c (mkI k n)) :
    Calls Try.prog 48 #[.agg #[.int .i64 p, .slice a n c], .int .i64 k] w fun e w' => e = .returned (.int .i64 (k + n : Nat)) ∧ Below w.heap.size w w' := by
  have hL := heldI_any (.slice a n c) n lo k (w.alloc (.cells #[.int .i64 p, .slice a n c] 47)) hkn (h.t.alloc _)
  clear h
  go_enter Try.func48, Try.ntmps48
  go_wp2_with (first | (go_at_call 104; refine hL.mono ?_; rintro e w2 ⟨rfl, hw⟩; subst hw))
  go_ret
  exact ⟨ret_int (by omega), below_box _⟩

end Go.Proofs.Ytaopblgnmmhjfaa
