/- The program's ParseRule keeps its contract. -/
import Derived.Test.YtciefdphjkjikaaGreatDoorAi
import Derived.Test.YtciefdphjkjikaaGreatDoorGd
namespace Go.Proofs.YtciefdphjkjikaaGreatDoor
open Go.RowKit Go.Shelf Go.Maps Go.WideMaps

/-- What ParseRule leaves. -/
def OutPr (w w' : World) (e : Ending) (t : List UInt8) : Prop := Below w.heap.size w w' ∧ ∃ (va : Option Addr) (vc : Nat), e = .returned (.agg #[.int .i64 (prR t).1, .slice va (prR t).2.1.length vc, .int .i64 (prR t).2.2.1, .int .i64 (prR t).2.2.2]) ∧ w'.ownsRow w.heap.size 2 1 (.slice va (prR t).2.1.length vc) (prR t).2.1.length (ints (prR t).2.1)
theorem four_belowR {w W : World} {B b : Nat} (h : Below B w W) (hb : B ≤ b) (v0 v1 v2 v3 : Value) : Below B w ((((W.setCell ⟨b, 0, none⟩ v0).setCell ⟨b, 1, none⟩ v1).setCell ⟨b, 2, none⟩ v2).setCell ⟨b, 3, none⟩ v3) :=
  (((h.setCell (p := ⟨b, 0, none⟩) hb _).setCell (p := ⟨b, 1, none⟩) hb _).setCell (p := ⟨b, 2, none⟩) hb _).setCell (p := ⟨b, 3, none⟩) hb _
theorem four_rowR {W : World} {b base base' : Nat} {e : TypeId} {size n : Nat} {v : Value} {xs : List Value} (h : W.ownsRow base e size v n xs) (hb : b < base) (hb' : base' ≤ base) (v0 v1 v2 v3 : Value) : ((((W.setCell ⟨b, 0, none⟩ v0).setCell ⟨b, 1, none⟩ v1).setCell ⟨b, 2, none⟩ v2).setCell ⟨b, 3, none⟩ v3).ownsRow base' e size v n xs :=
  Joins.ownsRow_le (ownsRow_setCell_below (ownsRow_setCell_below (ownsRow_setCell_below (ownsRow_setCell_below h (a := ⟨b, 0, none⟩) hb _) (a := ⟨b, 1, none⟩) hb _) (a := ⟨b, 2, none⟩) hb _) (a := ⟨b, 3, none⟩) hb _) hb'
theorem cut_len (t s : List UInt8) : (Lib.cut t s).1.length ≤ t.length ∧ (Lib.cut t s).2.1.length ≤ t.length - s.length := by
  unfold Lib.cut
  split
  · simp only [List.length_take, List.length_drop]; omega
  · simp
theorem row_on {u u' : World} {base n vc : Nat} {va : Option Addr} {xs : List Value} (h : u.ownsRow base 2 1 (.slice va n vc) n xs) (hb : Below u.heap.size u u') : u'.ownsRow base 2 1 (.slice va n vc) n xs :=
  h.kept (grown_of_below hb) (by cases Value.ownBlock (.slice va n vc) <;> simp)

set_option maxRecDepth 20000 in
set_option maxHeartbeats 4000000 in
theorem iParseRule_any (t : List UInt8) (m : Int) (w : World) (ht : t.length ≤ 1048576) (hm : w.cell? ⟨1, 0, none⟩ = some (.int .i64 m)) (hE : Erv w) (hTb : Tb w) :
    Calls Tryz.prog 89 #[.string (str t)] w fun e w' => OutPr w w' e t := by
  have hb1 : Below w.heap.size w (w.alloc (.cells #[.int .i64 0, .slice none 0 0, .int .i64 0, .int .i64 0] 127)) := below_box _
  have hs1 : (w.alloc (.cells #[.int .i64 0, .slice none 0 0, .int .i64 0, .int .i64 0] 127)).heap.size = w.heap.size + 1 := by simp
  have HBW : Hid (∀ u, Below (w.heap.size + 1) (w.alloc (.cells #[.int .i64 0, .slice none 0 0, .int .i64 0, .int .i64 0] 127)) u → Below w.heap.size w u) := fun u h => hb1.trans (h.mono (by omega))
  have HR1 : Hid ((w.alloc (.cells #[.int .i64 0, .slice none 0 0, .int .i64 0, .int .i64 0] 127)).heap[w.heap.size]? = some (.cells #[.int .i64 0, .slice none 0 0, .int .i64 0, .int .i64 0] 127 (0, 0))) := heap_alloc_new _ _
  have hlm := World.block_lt_of_cell? _ _ hm
  have HM : Hid (∀ u, Below w.heap.size w u → u.cell? ⟨1, 0, none⟩ = some (.int .i64 m)) := fun u h => (h.cell (p := ⟨1, 0, none⟩) hlm).trans hm
  obtain ⟨⟨a, b, c⟩, e1⟩ : ∃ r, Lib.cut t [32, 111, 102, 32] = r := ⟨_, rfl⟩
  obtain ⟨⟨k, f, c2⟩, e2⟩ : ∃ r, Lib.cut b [32, 97, 102, 116, 101, 114, 32] = r := ⟨_, rfl⟩
  have hq1 := cut_len t [32, 111, 102, 32]
  have hq2 := cut_len b [32, 97, 102, 116, 101, 114, 32]
  rw [e1] at hq1
  rw [e2] at hq2
  simp only [List.length_cons, List.length_nil] at hq1 hq2
  obtain ⟨l, hl⟩ : ∃ l, l = (cutL 44 k).map looseN := ⟨_, rfl⟩
  obtain ⟨x, hx⟩ : ∃ x, x = looseN a := ⟨_, rfl⟩
  obtain ⟨y, hy⟩ : ∃ y, y = looseN f := ⟨_, rfl⟩
  have hll : l.length ≤ 1048576 := by
    have := cutL_len 44 k
    rw [hl, List.length_map]
    omega
  have hsame := loose_same t
  have hlr : looseR t = (l, x, y) := by
    unfold looseR
    rw [e1]
    show (((cutL 44 (Lib.cut b [32, 97, 102, 116, 101, 114, 32]).1).map looseN), looseN a, looseN (Lib.cut b [32, 97, 102, 116, 101, 114, 32]).2.1) = _
    rw [e2, hl, hx, hy]
  rw [hlr] at hsame
  simp only at hsame
  have ed : ∀ z : List UInt8, (str z).data.toList = z := fun z => by simp [str]
  have ez : ∀ z : List UInt8, (str z).size = z.length := fun z => by show z.toArray.size = _; simp
  have hC1 : Calls Tryz.prog 102 #[.string (str t), .string ⟨#[32, 111, 102, 32]⟩] (w.alloc (.cells #[.int .i64 0, .slice none 0 0, .int .i64 0, .int .i64 0] 127)) fun e w' => e = .returned (.tuple #[.string (str a), .string (str b), .bool c]) ∧ Hid (Below (w.heap.size + 1) (w.alloc (.cells #[.int .i64 0, .slice none 0 0, .int .i64 0, .int .i64 0] 127)) w') := by
    refine (Tryz.strings_Cut (str t) ⟨#[32, 111, 102, 32]⟩ m (w.alloc (.cells #[.int .i64 0, .slice none 0 0, .int .i64 0, .int .i64 0] 127)) (by rw [ez]; omega) (HM.out _ hb1)).mono fun e w' ⟨h1, n, h2⟩ => ⟨?_, ?_⟩
    · rw [h1, ed]
      show Ending.returned (.tuple #[.string (str (Lib.cut t [32, 111, 102, 32]).1), .string (str (Lib.cut t [32, 111, 102, 32]).2.1), .bool (Lib.cut t [32, 111, 102, 32]).2.2]) = _
      rw [e1]
    · show Below _ _ _
      rw [h2, ← hs1]; exact below_drewN (Below.refl _ _) n
  have HC2 : Hid (∀ u, Below (w.heap.size + 1) (w.alloc (.cells #[.int .i64 0, .slice none 0 0, .int .i64 0, .int .i64 0] 127)) u → Calls Tryz.prog 102 #[.string (str b), .string ⟨#[32, 97, 102, 116, 101, 114, 32]⟩] u fun e w' => e = .returned (.tuple #[.string (str k), .string (str f), .bool c2]) ∧ Hid (Below (w.heap.size + 1) (w.alloc (.cells #[.int .i64 0, .slice none 0 0, .int .i64 0, .int .i64 0] 127)) w')) := fun u hu => by
    refine (Tryz.strings_Cut (str b) ⟨#[32, 97, 102, 116, 101, 114, 32]⟩ m u (by rw [ez]; omega) (HM.out _ (HBW.out u hu))).mono fun e w' ⟨h1, n, h2⟩ => ⟨?_, ?_⟩
    · rw [h1, ed]
      show Ending.returned (.tuple #[.string (str (Lib.cut b [32, 97, 102, 116, 101, 114, 32]).1), .string (str (Lib.cut b [32, 97, 102, 116, 101, 114, 32]).2.1), .bool (Lib.cut b [32, 97, 102, 116, 101, 114, 32]).2.2]) = _
      rw [e2]
    · show Below _ _ _
      rw [h2]; exact below_drewN hu n
  have HK : Hid (∀ u, Below (w.heap.size + 1) (w.alloc (.cells #[.int .i64 0, .slice none 0 0, .int .i64 0, .int .i64 0] 127)) u → Calls Tryz.prog 104 #[.string (str k)] u fun e w' => ∃ B, e = .returned (.func (.func 118) #[] #[.pointer (some ⟨B, 0, none⟩)]) ∧ Hid (w'.heap[B]? = some (.cells #[.string (str k)] 9 (0, 0))) ∧ Hid (Below (w.heap.size + 1) (w.alloc (.cells #[.int .i64 0, .slice none 0 0, .int .i64 0, .int .i64 0] 127)) w')) := fun u hu =>
    (eachReadKey_any k u).mono fun e w' ⟨h1, h2⟩ => ⟨u.heap.size, h1, by rw [h2]; exact heap_alloc_new _ _, by
      show Below _ _ _
      rw [h2]; exact hu.alloc (by have := hu.size; omega) _⟩
  have HG : Hid (∀ (u : World) (B : Nat), u.heap[B]? = some (.cells #[.string (str k)] 9 (0, 0)) → Below (w.heap.size + 1) (w.alloc (.cells #[.int .i64 0, .slice none 0 0, .int .i64 0, .int .i64 0] 127)) u → Calls Tryz.prog 103 #[.func (.func 118) #[] #[.pointer (some ⟨B, 0, none⟩)]] u fun e w' => ∃ va vc, e = .returned (.slice va l.length vc) ∧ Hid (World.ownsRow w' (w.heap.size + 1) 2 1 (.slice va l.length vc) l.length (ints l)) ∧ Hid (Below (w.heap.size + 1) (w.alloc (.cells #[.int .i64 0, .slice none 0 0, .int .i64 0, .int .i64 0] 127)) w')) := fun u B hB hu =>
    (collectI B k u (by omega) hB (hE.below (HBW.out u hu))).mono fun e w' ⟨v, h1, h2, h3⟩ => by
      have hsu := hu.size
      rw [← hl] at h2
      have hb : Below (w.heap.size + 1) (w.alloc (.cells #[.int .i64 0, .slice none 0 0, .int .i64 0, .int .i64 0] 127)) w' := hu.trans (h3.mono (by omega))
      rcases id h2.2 with ⟨q, q0⟩ | ⟨g, cap, cur, q, _⟩
      · refine ⟨none, 0, by rw [h1, q, q0], ?_, hb⟩
        show World.ownsRow _ _ _ _ _ _ _
        rw [q] at h2
        have := Joins.ownsRow_le h2 (show w.heap.size + 1 ≤ u.heap.size by omega)
        rw [q0] at this ⊢
        exact this
      · refine ⟨some ⟨g, 0, none⟩, cap, by rw [h1, q], ?_, hb⟩
        rw [q] at h2
        exact Joins.ownsRow_le h2 (show w.heap.size + 1 ≤ u.heap.size by omega)
  have HLA : Hid (∀ (u : World) (va : Option Addr) (vc : Nat), World.ownsRow u (w.heap.size + 1) 2 1 (.slice va l.length vc) l.length (ints l) → Below (w.heap.size + 1) (w.alloc (.cells #[.int .i64 0, .slice none 0 0, .int .i64 0, .int .i64 0] 127)) u → Calls Tryz.prog 86 #[.string (str a)] u fun e w' => e = .returned (.int .i64 x) ∧ Hid (World.ownsRow w' (w.heap.size + 1) 2 1 (.slice va l.length vc) l.length (ints l)) ∧ Hid (Below (w.heap.size + 1) (w.alloc (.cells #[.int .i64 0, .slice none 0 0, .int .i64 0, .int .i64 0] 127)) w')) := fun u va vc ho hu =>
    (looseNumber_any a u (by omega) (hE.below (HBW.out u hu))).mono fun e w' ⟨h1, h2⟩ => ⟨by rw [h1, hx], row_on ho h2, hu.trans (h2.mono (by have := hu.size; omega))⟩
  have HLF : Hid (∀ (u : World) (va : Option Addr) (vc : Nat), World.ownsRow u (w.heap.size + 1) 2 1 (.slice va l.length vc) l.length (ints l) → Below (w.heap.size + 1) (w.alloc (.cells #[.int .i64 0, .slice none 0 0, .int .i64 0, .int .i64 0] 127)) u → Calls Tryz.prog 86 #[.string (str f)] u fun e w' => e = .returned (.int .i64 y) ∧ Hid (World.ownsRow w' (w.heap.size + 1) 2 1 (.slice va l.length vc) l.length (ints l)) ∧ Hid (Below (w.heap.size + 1) (w.alloc (.cells #[.int .i64 0, .slice none 0 0, .int .i64 0, .int .i64 0] 127)) w')) := fun u va vc ho hu =>
    (looseNumber_any f u (by omega) (hE.below (HBW.out u hu))).mono fun e w' ⟨h1, h2⟩ => ⟨by rw [h1, hy], row_on ho h2, hu.trans (h2.mono (by have := hu.size; omega))⟩
  obtain ⟨cd, hcd⟩ : ∃ c, c = (rtR l x y).1 := ⟨_, rfl⟩
  obtain ⟨tx, htx⟩ : ∃ c, c = str (rtR l x y).2 := ⟨_, rfl⟩
  have HT : Hid (∀ (u : World) (va : Option Addr) (vc : Nat), World.ownsRow u (w.heap.size + 1) 2 1 (.slice va l.length vc) l.length (ints l) → Below (w.heap.size + 1) (w.alloc (.cells #[.int .i64 0, .slice none 0 0, .int .i64 0, .int .i64 0] 127)) u → Calls Tryz.prog 78 #[.agg #[.slice va l.length vc, .int .i64 x, .int .i64 y]] (u.alloc (.cells #[.slice va l.length vc, .int .i64 x, .int .i64 y] 42)) fun e w' => e = .returned (.agg #[.int .i64 cd, .string tx]) ∧ Hid (World.ownsRow w' (w.heap.size + 1) 2 1 (.slice va l.length vc) l.length (ints l)) ∧ Hid (Below (w.heap.size + 1) (w.alloc (.cells #[.int .i64 0, .slice none 0 0, .int .i64 0, .int .i64 0] 127)) w') ∧ Hid (w'.heap[u.heap.size]? = some (.cells #[.slice va l.length vc, .int .i64 x, .int .i64 y] 42 (0, 0)))) := fun u va vc ho hu => by
    have hsu := hu.size
    have hbx := below_box (w := u) (.cells #[.slice va l.length vc, .int .i64 x, .int .i64 y] 42)
    have hu2 : Below (w.heap.size + 1) (w.alloc (.cells #[.int .i64 0, .slice none 0 0, .int .i64 0, .int .i64 0] 127)) (u.alloc (.cells #[.slice va l.length vc, .int .i64 x, .int .i64 y] 42)) := hu.trans (hbx.mono (by omega))
    have hoa := ho.alloc (.cells #[.slice va l.length vc, .int .i64 x, .int .i64 y] 42)
    rw [hcd, htx]
    refine (iRuleText_any l.length vc va l x y (u.alloc (.cells #[.slice va l.length vc, .int .i64 x, .int .i64 y] 42)) hll (IAt.owned hoa rfl) (hTb.below (HBW.out _ hu2) (Nat.le_refl _))).mono fun e w' ⟨h1, h2⟩ => ⟨h1, row_on hoa h2, hu2.trans (h2.mono (by have := hu2.size; omega)), (h2.block u.heap.size (by simp)).trans (heap_alloc_new _ _)⟩
  have HCD : Hid (cd = ruleR l x y ∧ (cd = 0 → tx = str (rtxR l x y))) := by
    show _ ∧ _
    rw [hcd, htx]
    unfold rtR
    by_cases hz : ruleR l x y ≠ 0
    · rw [if_pos hz]; exact ⟨rfl, fun e => absurd e hz⟩
    · rw [if_neg hz]; exact ⟨by simp at hz; exact hz.symm, fun _ => rfl⟩
  have HS : Hid ((if ruleR l x y = 0 ∧ rtxR l x y = t then (0, (l, x, y)) else (5, ([], 0, 0))) = prR t) := hsame
  clear hcd htx hsame hlr hE hTb hm hlm hq1 hq2 e1 e2 hl hx hy ed ez hb1 hs1 hll
  by_cases hz : cd = 0
  · subst hz
    by_cases he : rtxR l x y = t
    · have HPR : Hid (prR t = (0, (l, x, y))) := by
        show _ = _
        rw [← HS.out, if_pos ⟨HCD.out.1.symm, he⟩]
      have hE : (tx.toList == (str t).toList) = true := str_yes (by rw [HCD.out.2 rfl, he])
      clear he
      go_enter Tryz.func89, Tryz.ntmps89
      go_wp2_with (first
        | (go_at_call 102; (with_reducible refine hC1.mono ?_); clear hC1; rintro e u1 ⟨rfl, HB1⟩; have hC2 := HC2.out u1 HB1.out)
        | (go_at_call 102; (with_reducible refine hC2.mono ?_); clear hC2; rintro e u2 ⟨rfl, HB2⟩; have hK := HK.out u2 HB2.out)
        | (go_at_call 104; (with_reducible refine hK.mono ?_); clear hK; rintro e u3 ⟨B, rfl, HX3, HB3⟩; have hG := HG.out u3 B HX3.out HB3.out)
        | (go_at_call 103; (with_reducible refine hG.mono ?_); clear hG; rintro e u4 ⟨va, vc, rfl, HO4, HB4⟩; have hLa := HLA.out u4 va vc HO4.out HB4.out)
        | (go_at_call 86; (with_reducible refine hLa.mono ?_); clear hLa; rintro e u5 ⟨rfl, HO5, HB5⟩; have hLf := HLF.out u5 va vc HO5.out HB5.out)
        | (go_at_call 86; (with_reducible refine hLf.mono ?_); clear hLf; rintro e u6 ⟨rfl, HO6, HB6⟩; have hT := HT.out u6 va vc HO6.out HB6.out)
        | (go_at_call 78; (with_reducible refine hT.mono ?_); clear hT; rintro e u7 ⟨rfl, HO7, HB7, HX7⟩; have hbt := below_box (w := u7) (.cells #[.int .i64 0, .string tx] 33); have HR7 : Hid (u7.heap[w.heap.size]? = some (.cells #[.int .i64 0, .slice none 0 0, .int .i64 0, .int .i64 0] 127 (0, 0))) := (HB7.out.block w.heap.size (by omega)).trans HR1.out; have HX8 := keepb HX7.out hbt; have HR8 := keepb HR7.out hbt; have HB8 : Hid (Below w.heap.size w (u7.alloc (.cells #[.int .i64 0, .string tx] 33))) := HBW.out _ (HB7.out.trans (hbt.mono (by have := HB7.out.size; simp at this; omega))); have HO8 : Hid (World.ownsRow (u7.alloc (.cells #[.int .i64 0, .string tx] 33)) (w.heap.size + 1) 2 1 (.slice va l.length vc) l.length (ints l)) := HO7.out.alloc _; obtain ⟨q0, q1, q2, q3, q4, q5, q6, q7⟩ := cells4 HR8.out; obtain ⟨x0, x1, x2⟩ := cells3 HX8.out; clear hbt))
      obtain ⟨j0, j1, j2, j3⟩ := four_set HR8.out (.int .i64 0) (.slice va l.length vc) (.int .i64 x) (.int .i64 y)
      refine bodyPost_ret (v := .agg #[.int .i64 0, .slice va l.length vc, .int .i64 x, .int .i64 y]) (by simp [results, Tryz.results89, go_sem, j0, j1, j2, j3]) rfl ?_
      refine ⟨four_belowR HB8.out (Nat.le_refl _) _ _ _ _, va, vc, by rw [HPR.out], ?_⟩
      rw [HPR.out]
      exact four_rowR HO8.out (by omega) (by omega) _ _ _ _

    · have HPR : Hid (prR t = (5, ([], 0, 0))) := by
        show _ = _
        rw [← HS.out, if_neg (fun q => he q.2)]
      have hE : (tx.toList == (str t).toList) = false := str_no (by
        rw [HCD.out.2 rfl]
        intro e
        apply he
        have h2 := congrArg (fun s : ByteArray => s.data.toList) e
        simpa [str] using h2)
      clear he
      go_enter Tryz.func89, Tryz.ntmps89
      go_wp2_with (first
        | (go_at_call 102; (with_reducible refine hC1.mono ?_); clear hC1; rintro e u1 ⟨rfl, HB1⟩; have hC2 := HC2.out u1 HB1.out)
        | (go_at_call 102; (with_reducible refine hC2.mono ?_); clear hC2; rintro e u2 ⟨rfl, HB2⟩; have hK := HK.out u2 HB2.out)
        | (go_at_call 104; (with_reducible refine hK.mono ?_); clear hK; rintro e u3 ⟨B, rfl, HX3, HB3⟩; have hG := HG.out u3 B HX3.out HB3.out)
        | (go_at_call 103; (with_reducible refine hG.mono ?_); clear hG; rintro e u4 ⟨va, vc, rfl, HO4, HB4⟩; have hLa := HLA.out u4 va vc HO4.out HB4.out)
        | (go_at_call 86; (with_reducible refine hLa.mono ?_); clear hLa; rintro e u5 ⟨rfl, HO5, HB5⟩; have hLf := HLF.out u5 va vc HO5.out HB5.out)
        | (go_at_call 86; (with_reducible refine hLf.mono ?_); clear hLf; rintro e u6 ⟨rfl, HO6, HB6⟩; have hT := HT.out u6 va vc HO6.out HB6.out)
        | (go_at_call 78; (with_reducible refine hT.mono ?_); clear hT; rintro e u7 ⟨rfl, HO7, HB7, HX7⟩; have hbt := below_box (w := u7) (.cells #[.int .i64 0, .string tx] 33); have HR7 : Hid (u7.heap[w.heap.size]? = some (.cells #[.int .i64 0, .slice none 0 0, .int .i64 0, .int .i64 0] 127 (0, 0))) := (HB7.out.block w.heap.size (by omega)).trans HR1.out; have HX8 := keepb HX7.out hbt; have HR8 := keepb HR7.out hbt; have HB8 : Hid (Below w.heap.size w (u7.alloc (.cells #[.int .i64 0, .string tx] 33))) := HBW.out _ (HB7.out.trans (hbt.mono (by have := HB7.out.size; simp at this; omega))); have HO8 : Hid (World.ownsRow (u7.alloc (.cells #[.int .i64 0, .string tx] 33)) (w.heap.size + 1) 2 1 (.slice va l.length vc) l.length (ints l)) := HO7.out.alloc _; obtain ⟨q0, q1, q2, q3, q4, q5, q6, q7⟩ := cells4 HR8.out; obtain ⟨x0, x1, x2⟩ := cells3 HX8.out; clear hbt))
      obtain ⟨j0, j1, j2, j3⟩ := four_set HR8.out (.int .i64 5) (.slice none 0 0) (.int .i64 0) (.int .i64 0)
      refine bodyPost_ret (v := .agg #[.int .i64 5, .slice none 0 0, .int .i64 0, .int .i64 0]) (by simp [results, Tryz.results89, go_sem, j0, j1, j2, j3]) rfl ?_
      refine ⟨four_belowR HB8.out (Nat.le_refl _) _ _ _ _, none, 0, by rw [HPR.out]; rfl, ?_⟩
      rw [HPR.out]
      exact World.ownsRow_nil _ _ _ _

  · have HPR : Hid (prR t = (5, ([], 0, 0))) := by
      show _ = _
      rw [← HS.out, if_neg (fun q => hz (HCD.out.1.trans q.1))]
    go_enter Tryz.func89, Tryz.ntmps89
    go_wp2_with (first
      | (go_at_call 102; (with_reducible refine hC1.mono ?_); clear hC1; rintro e u1 ⟨rfl, HB1⟩; have hC2 := HC2.out u1 HB1.out)
      | (go_at_call 102; (with_reducible refine hC2.mono ?_); clear hC2; rintro e u2 ⟨rfl, HB2⟩; have hK := HK.out u2 HB2.out)
      | (go_at_call 104; (with_reducible refine hK.mono ?_); clear hK; rintro e u3 ⟨B, rfl, HX3, HB3⟩; have hG := HG.out u3 B HX3.out HB3.out)
      | (go_at_call 103; (with_reducible refine hG.mono ?_); clear hG; rintro e u4 ⟨va, vc, rfl, HO4, HB4⟩; have hLa := HLA.out u4 va vc HO4.out HB4.out)
      | (go_at_call 86; (with_reducible refine hLa.mono ?_); clear hLa; rintro e u5 ⟨rfl, HO5, HB5⟩; have hLf := HLF.out u5 va vc HO5.out HB5.out)
      | (go_at_call 86; (with_reducible refine hLf.mono ?_); clear hLf; rintro e u6 ⟨rfl, HO6, HB6⟩; have hT := HT.out u6 va vc HO6.out HB6.out)
      | (go_at_call 78; (with_reducible refine hT.mono ?_); clear hT; rintro e u7 ⟨rfl, HO7, HB7, HX7⟩; have hbt := below_box (w := u7) (.cells #[.int .i64 cd, .string tx] 33); have HR7 : Hid (u7.heap[w.heap.size]? = some (.cells #[.int .i64 0, .slice none 0 0, .int .i64 0, .int .i64 0] 127 (0, 0))) := (HB7.out.block w.heap.size (by omega)).trans HR1.out; have HX8 := keepb HX7.out hbt; have HR8 := keepb HR7.out hbt; have HB8 : Hid (Below w.heap.size w (u7.alloc (.cells #[.int .i64 cd, .string tx] 33))) := HBW.out _ (HB7.out.trans (hbt.mono (by have := HB7.out.size; simp at this; omega))); have HO8 : Hid (World.ownsRow (u7.alloc (.cells #[.int .i64 cd, .string tx] 33)) (w.heap.size + 1) 2 1 (.slice va l.length vc) l.length (ints l)) := HO7.out.alloc _; obtain ⟨q0, q1, q2, q3, q4, q5, q6, q7⟩ := cells4 HR8.out; obtain ⟨x0, x1, x2⟩ := cells3 HX8.out; clear hbt))
    obtain ⟨j0, j1, j2, j3⟩ := four_set HR8.out (.int .i64 5) (.slice none 0 0) (.int .i64 0) (.int .i64 0)
    refine bodyPost_ret (v := .agg #[.int .i64 5, .slice none 0 0, .int .i64 0, .int .i64 0]) (by simp [results, Tryz.results89, go_sem, j0, j1, j2, j3]) rfl ?_
    refine ⟨four_belowR HB8.out (Nat.le_refl _) _ _ _ _, none, 0, by rw [HPR.out]; rfl, ?_⟩
    rw [HPR.out]
    exact World.ownsRow_nil _ _ _ _

end Go.Proofs.YtciefdphjkjikaaGreatDoor
