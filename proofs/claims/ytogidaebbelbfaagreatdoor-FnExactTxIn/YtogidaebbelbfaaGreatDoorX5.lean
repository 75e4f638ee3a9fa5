/- The program's ParseRule keeps its contract. The program's small readers: a number, a word, a cut, a kind. Each tells what it reads, or panics. The program's readRefs: each piece of a word is a ref, or the reading panics. Underscores replaced by blanks; outs appended; the program's readOut: what a word tells, or a panic. A new text in the table, and what of other memory stays. What the program's NoteText answers. The draws: numbers that the bytes of a code make. A transaction of the call's own: its refs' row and its outs; marks are written into it. -/
import Derived.Test.YtogidaebbelbfaaGreatDoorAi
import Derived.Test.YtogidaebbelbfaaGreatDoorX4
import Derived.Test.YtogidaebbelbfaaGreatDoorBa
import Derived.Test.YtogidaebbelbfaaGreatDoorBb
import Derived.Test.YtogidaebbelbfaaGreatDoorRv
import Derived.WalkLawsBesides
import Derived.OrdersIn
import Derived.RangeFuncBox
import Derived.Maps.OwnIn
import Derived.Maps.AppendAt
import Derived.Shelf.RegionOpen
import Derived.Test.YtogidaebbelbfaaGreatDoorX3
import Derived.Test.YtogidaebbelbfaaGreatDoorDx
import Derived.Test.YtogidaebbelbfaaGreatDoorX2
import Derived.Test.YtogidaebbelbfaaGreatDoorX1
import Derived.Test.YtogidaebbelbfaaGreatDoorTxS
namespace Go.Proofs.YtogidaebbelbfaaGreatDoor
open Go.RowKit Go.Shelf Go.Maps Go.WideMaps

/-- What ParseRule leaves. -/
def OutPr (w w' : World) (e : Ending) (t : List UInt8) : Prop := Below w.heap.size w w' ∧ ∃ (va : Option Addr) (vc : Nat), e = .returned (.agg #[.int .i64 (prR t).1, .slice va (prR t).2.1.length vc, .int .i64 (prR t).2.2.1, .int .i64 (prR t).2.2.2]) ∧ w'.ownsRow w.heap.size 2 1 (.slice va (prR t).2.1.length vc) (prR t).2.1.length (ints (prR t).2.1)
theorem four_belowR {w W : World} {B b : Nat} (h : Below B w W) (hb : B ≤ b) (v0 v1 v2 v3 : Value) : Below B w ((((W.setCell ⟨b, 0, none⟩ v0).setCell ⟨b, 1, none⟩ v1).setCell ⟨b, 2, none⟩ v2).setCell ⟨b, 3, none⟩ v3) :=
  (((h.setCell (p := ⟨b, 0, none⟩) hb _).setCell (p := ⟨b, 1, none⟩) hb _).setCell (p := ⟨b, 2, none⟩) hb _).setCell (p := ⟨b, 3, none⟩) hb _
theorem four_rowR {W : World} {b base base' : Nat} {e : TypeId} {size n : Nat} {v : Value} {xs : List Value} (h : W.ownsRow base e size v n xs) (hb : b < base) (hb' : base' ≤ base) (v0 v1 v2 v3 : Value) : ((((W.setCell ⟨b, 0, none⟩ v0).setCell ⟨b, 1, none⟩ v1).setCell ⟨b, 2, none⟩ v2).setCell ⟨b, 3, none⟩ v3).ownsRow base' e size v n xs :=
  Joins.ownsRow_le (ownsRow_setCell_below (ownsRow_setCell_below (ownsRow_setCell_below (ownsRow_setCell_below h (a := ⟨b, 0, none⟩) hb _) (a := ⟨b, 1, none⟩) hb _) (a := ⟨b, 2, none⟩) hb _) (a := ⟨b, 3, none⟩) hb _) hb'
theorem cut_len (t s : List UInt8) : (Lib.cut t s).1.length ≤ t.length ∧ (Lib.cut t s).2.1.length ≤ t.length - s.length := by
  unfold Lib.cut
  split
  · simp only [List.length_take, List.length_drop]; omega
  · simp
theorem row_on {u u' : World} {base n vc : Nat} {va : Option Addr} {xs : List Value} (h : u.ownsRow base 2 1 (.slice va n vc) n xs) (hb : Below u.heap.size u u') : u'.ownsRow base 2 1 (.slice va n vc) n xs :=
  h.kept (grown_of_below hb) (by cases Value.ownBlock (.slice va n vc) <;> simp)

set_option maxRecDepth 20000 in
set_option maxHeartbeats 4000000 in
theorem iParseRule_any (t : List UInt8) (m : Int) (w : World) (ht : t.length ≤ 1048576) (hm : w.cell? ⟨1, 0, none⟩ = some (.int .i64 m)) (hE : Erv w) (hTb : Tb w) :
    Calls Tryz.prog 100 #[.string (str t)] w fun e w' => OutPr w w' e t := by
  have hb1 : Below w.heap.size w (w.alloc (.cells #[.int .i64 0, .slice none 0 0, .int .i64 0, .int .i64 0] 151)) := below_box _
  have hs1 : (w.alloc (.cells #[.int .i64 0, .slice none 0 0, .int .i64 0, .int .i64 0] 151)).heap.size = w.heap.size + 1 := by simp
  have HBW : Hid (∀ u, Below (w.heap.size + 1) (w.alloc (.cells #[.int .i64 0, .slice none 0 0, .int .i64 0, .int .i64 0] 151)) u → Below w.heap.size w u) := fun u h => hb1.trans (h.mono (by omega))
  have HR1 : Hid ((w.alloc (.cells #[.int .i64 0, .slice none 0 0, .int .i64 0, .int .i64 0] 151)).heap[w.heap.size]? = some (.cells #[.int .i64 0, .slice none 0 0, .int .i64 0, .int .i64 0] 151 (0, 0))) := heap_alloc_new _ _
  have hlm := World.block_lt_of_cell? _ _ hm
  have HM : Hid (∀ u, Below w.heap.size w u → u.cell? ⟨1, 0, none⟩ = some (.int .i64 m)) := fun u h => (h.cell (p := ⟨1, 0, none⟩) hlm).trans hm
  obtain ⟨⟨a, b, c⟩, e1⟩ : ∃ r, Lib.cut t [32, 111, 102, 32] = r := ⟨_, rfl⟩
  obtain ⟨⟨k, f, c2⟩, e2⟩ : ∃ r, Lib.cut b [32, 97, 102, 116, 101, 114, 32] = r := ⟨_, rfl⟩
  have hq1 := cut_len t [32, 111, 102, 32]
  have hq2 := cut_len b [32, 97, 102, 116, 101, 114, 32]
  rw [e1] at hq1
  rw [e2] at hq2
  simp only [List.length_cons, List.length_nil] at hq1 hq2
  obtain ⟨l, hl⟩ : ∃ l, l = (cutL 44 k).map looseN := ⟨_, rfl⟩
  obtain ⟨x, hx⟩ : ∃ x, x = looseN a := ⟨_, rfl⟩
  obtain ⟨y, hy⟩ : ∃ y, y = looseN f := ⟨_, rfl⟩
  have hll : l.length ≤ 1048576 := by
    have := cutL_len 44 k
    rw [hl, List.length_map]
    omega
  have hsame := loose_same t
  have hlr : looseR t = (l, x, y) := by
    unfold looseR
    rw [e1]
    show (((cutL 44 (Lib.cut b [32, 97, 102, 116, 101, 114, 32]).1).map looseN), looseN a, looseN (Lib.cut b [32, 97, 102, 116, 101, 114, 32]).2.1) = _
    rw [e2, hl, hx, hy]
  rw [hlr] at hsame
  simp only at hsame
  have ed : ∀ z : List UInt8, (str z).data.toList = z := fun z => by simp [str]
  have ez : ∀ z : List UInt8, (str z).size = z.length := fun z => by show z.toArray.size = _; simp
  have hC1 : Calls Tryz.prog 117 #[.string (str t), .string ⟨#[32, 111, 102, 32]⟩] (w.alloc (.cells #[.int .i64 0, .slice none 0 0, .int .i64 0, .int .i64 0] 151)) fun e w' => e = .returned (.tuple #[.string (str a), .string (str b), .bool c]) ∧ Hid (Below (w.heap.size + 1) (w.alloc (.cells #[.int .i64 0, .slice none 0 0, .int .i64 0, .int .i64 0] 151)) w') := by
    refine (Tryz.strings_Cut (str t) ⟨#[32, 111, 102, 32]⟩ m (w.alloc (.cells #[.int .i64 0, .slice none 0 0, .int .i64 0, .int .i64 0] 151)) (by rw [ez]; omega) (HM.out _ hb1)).mono fun e w' ⟨h1, n, h2⟩ => ⟨?_, ?_⟩
    · rw [h1, ed]
      show Ending.returned (.tuple #[.string (str (Lib.cut t [32, 111, 102, 32]).1), .string (str (Lib.cut t [32, 111, 102, 32]).2.1), .bool (Lib.cut t [32, 111, 102, 32]).2.2]) = _
      rw [e1]
    · show Below _ _ _
      rw [h2, ← hs1]; exact below_drewN (Below.refl _ _) n
  have HC2 : Hid (∀ u, Below (w.heap.size + 1) (w.alloc (.cells #[.int .i64 0, .slice none 0 0, .int .i64 0, .int .i64 0] 151)) u → Calls Tryz.prog 117 #[.string (str b), .string ⟨#[32, 97, 102, 116, 101, 114, 32]⟩] u fun e w' => e = .returned (.tuple #[.string (str k), .string (str f), .bool c2]) ∧ Hid (Below (w.heap.size + 1) (w.alloc (.cells #[.int .i64 0, .slice none 0 0, .int .i64 0, .int .i64 0] 151)) w')) := fun u hu => by
    refine (Tryz.strings_Cut (str b) ⟨#[32, 97, 102, 116, 101, 114, 32]⟩ m u (by rw [ez]; omega) (HM.out _ (HBW.out u hu))).mono fun e w' ⟨h1, n, h2⟩ => ⟨?_, ?_⟩
    · rw [h1, ed]
      show Ending.returned (.tuple #[.string (str (Lib.cut b [32, 97, 102, 116, 101, 114, 32]).1), .string (str (Lib.cut b [32, 97, 102, 116, 101, 114, 32]).2.1), .bool (Lib.cut b [32, 97, 102, 116, 101, 114, 32]).2.2]) = _
      rw [e2]
    · show Below _ _ _
      rw [h2]; exact below_drewN hu n
  have HK : Hid (∀ u, Below (w.heap.size + 1) (w.alloc (.cells #[.int .i64 0, .slice none 0 0, .int .i64 0, .int .i64 0] 151)) u → Calls Tryz.prog 119 #[.string (str k)] u fun e w' => ∃ B, e = .returned (.func (.func 139) #[] #[.pointer (some ⟨B, 0, none⟩)]) ∧ Hid (w'.heap[B]? = some (.cells #[.string (str k)] 9 (0, 0))) ∧ Hid (Below (w.heap.size + 1) (w.alloc (.cells #[.int .i64 0, .slice none 0 0, .int .i64 0, .int .i64 0] 151)) w')) := fun u hu =>
    (eachReadKey_any k u).mono fun e w' ⟨h1, h2⟩ => ⟨u.heap.size, h1, by rw [h2]; exact heap_alloc_new _ _, by
      show Below _ _ _
      rw [h2]; exact hu.alloc (by have := hu.size; omega) _⟩
  have HG : Hid (∀ (u : World) (B : Nat), u.heap[B]? = some (.cells #[.string (str k)] 9 (0, 0)) → Below (w.heap.size + 1) (w.alloc (.cells #[.int .i64 0, .slice none 0 0, .int .i64 0, .int .i64 0] 151)) u → Calls Tryz.prog 118 #[.func (.func 139) #[] #[.pointer (some ⟨B, 0, none⟩)]] u fun e w' => ∃ va vc, e = .returned (.slice va l.length vc) ∧ Hid (World.ownsRow w' (w.heap.size + 1) 2 1 (.slice va l.length vc) l.length (ints l)) ∧ Hid (Below (w.heap.size + 1) (w.alloc (.cells #[.int .i64 0, .slice none 0 0, .int .i64 0, .int .i64 0] 151)) w')) := fun u B hB hu =>
    (collectI B k u (by omega) hB (hE.below (HBW.out u hu))).mono fun e w' ⟨v, h1, h2, h3⟩ => by
      have hsu := hu.size
      rw [← hl] at h2
      have hb : Below (w.heap.size + 1) (w.alloc (.cells #[.int .i64 0, .slice none 0 0, .int .i64 0, .int .i64 0] 151)) w' := hu.trans (h3.mono (by omega))
      rcases id h2.2 with ⟨q, q0⟩ | ⟨g, cap, cur, q, _⟩
      · refine ⟨none, 0, by rw [h1, q, q0], ?_, hb⟩
        show World.ownsRow _ _ _ _ _ _ _
        rw [q] at h2
        have := Joins.ownsRow_le h2 (show w.heap.size + 1 ≤ u.heap.size by omega)
        rw [q0] at this ⊢
        exact this
      · refine ⟨some ⟨g, 0, none⟩, cap, by rw [h1, q], ?_, hb⟩
        rw [q] at h2
        exact Joins.ownsRow_le h2 (show w.heap.size + 1 ≤ u.heap.size by omega)
  have HLA : Hid (∀ (u : World) (va : Option Addr) (vc : Nat), World.ownsRow u (w.heap.size + 1) 2 1 (.slice va l.length vc) l.length (ints l) → Below (w.heap.size + 1) (w.alloc (.cells #[.int .i64 0, .slice none 0 0, .int .i64 0, .int .i64 0] 151)) u → Calls Tryz.prog 96 #[.string (str a)] u fun e w' => e = .returned (.int .i64 x) ∧ Hid (World.ownsRow w' (w.heap.size + 1) 2 1 (.slice va l.length vc) l.length (ints l)) ∧ Hid (Below (w.heap.size + 1) (w.alloc (.cells #[.int .i64 0, .slice none 0 0, .int .i64 0, .int .i64 0] 151)) w')) := fun u va vc ho hu =>
    (looseNumber_any a u (by omega) (hE.below (HBW.out u hu))).mono fun e w' ⟨h1, h2⟩ => ⟨by rw [h1, hx], row_on ho h2, hu.trans (h2.mono (by have := hu.size; omega))⟩
  have HLF : Hid (∀ (u : World) (va : Option Addr) (vc : Nat), World.ownsRow u (w.heap.size + 1) 2 1 (.slice va l.length vc) l.length (ints l) → Below (w.heap.size + 1) (w.alloc (.cells #[.int .i64 0, .slice none 0 0, .int .i64 0, .int .i64 0] 151)) u → Calls Tryz.prog 96 #[.string (str f)] u fun e w' => e = .returned (.int .i64 y) ∧ Hid (World.ownsRow w' (w.heap.size + 1) 2 1 (.slice va l.length vc) l.length (ints l)) ∧ Hid (Below (w.heap.size + 1) (w.alloc (.cells #[.int .i64 0, .slice none 0 0, .int .i64 0, .int .i64 0] 151)) w')) := fun u va vc ho hu =>
    (looseNumber_any f u (by omega) (hE.below (HBW.out u hu))).mono fun e w' ⟨h1, h2⟩ => ⟨by rw [h1, hy], row_on ho h2, hu.trans (h2.mono (by have := hu.size; omega))⟩
  obtain ⟨cd, hcd⟩ : ∃ c, c = (rtR l x y).1 := ⟨_, rfl⟩
  obtain ⟨tx, htx⟩ : ∃ c, c = str (rtR l x y).2 := ⟨_, rfl⟩
  have HT : Hid (∀ (u : World) (va : Option Addr) (vc : Nat), World.ownsRow u (w.heap.size + 1) 2 1 (.slice va l.length vc) l.length (ints l) → Below (w.heap.size + 1) (w.alloc (.cells #[.int .i64 0, .slice none 0 0, .int .i64 0, .int .i64 0] 151)) u → Calls Tryz.prog 120 #[.agg #[.slice va l.length vc, .int .i64 x, .int .i64 y]] (u.alloc (.cells #[.slice va l.length vc, .int .i64 x, .int .i64 y] 95)) fun e w' => e = .returned (.agg #[.int .i64 cd, .string tx]) ∧ Hid (World.ownsRow w' (w.heap.size + 1) 2 1 (.slice va l.length vc) l.length (ints l)) ∧ Hid (Below (w.heap.size + 1) (w.alloc (.cells #[.int .i64 0, .slice none 0 0, .int .i64 0, .int .i64 0] 151)) w') ∧ Hid (w'.heap[u.heap.size]? = some (.cells #[.slice va l.length vc, .int .i64 x, .int .i64 y] 95 (0, 0)))) := fun u va vc ho hu => by
    have hsu := hu.size
    have hbx := below_box (w := u) (.cells #[.slice va l.length vc, .int .i64 x, .int .i64 y] 95)
    have hu2 : Below (w.heap.size + 1) (w.alloc (.cells #[.int .i64 0, .slice none 0 0, .int .i64 0, .int .i64 0] 151)) (u.alloc (.cells #[.slice va l.length vc, .int .i64 x, .int .i64 y] 95)) := hu.trans (hbx.mono (by omega))
    have hoa := ho.alloc (.cells #[.slice va l.length vc, .int .i64 x, .int .i64 y] 95)
    rw [hcd, htx]
    refine (iRuleText_any l.length vc va l x y (u.alloc (.cells #[.slice va l.length vc, .int .i64 x, .int .i64 y] 95)) hll (IAt.owned hoa rfl) (hTb.below (HBW.out _ hu2) (Nat.le_refl _))).mono fun e w' ⟨h1, h2⟩ => ⟨h1, row_on hoa h2, hu2.trans (h2.mono (by have := hu2.size; omega)), (h2.block u.heap.size (by simp)).trans (heap_alloc_new _ _)⟩
  have HCD : Hid (cd = ruleR l x y ∧ (cd = 0 → tx = str (rtxR l x y))) := by
    show _ ∧ _
    rw [hcd, htx]
    unfold rtR
    by_cases hz : ruleR l x y ≠ 0
    · rw [if_pos hz]; exact ⟨rfl, fun e => absurd e hz⟩
    · rw [if_neg hz]; exact ⟨by simp at hz; exact hz.symm, fun _ => rfl⟩
  have HS : Hid ((if ruleR l x y = 0 ∧ rtxR l x y = t then (0, (l, x, y)) else (5, ([], 0, 0))) = prR t) := hsame
  clear hcd htx hsame hlr hE hTb hm hlm hq1 hq2 e1 e2 hl hx hy ed ez hb1 hs1 hll
  by_cases hz : cd = 0
  · subst hz
    by_cases he : rtxR l x y = t
    · have HPR : Hid (prR t = (0, (l, x, y))) := by
        show _ = _
        rw [← HS.out, if_pos ⟨HCD.out.1.symm, he⟩]
      have hE : (tx.toList == (str t).toList) = true := str_yes (by rw [HCD.out.2 rfl, he])
      clear he
      go_enter Tryz.func100, Tryz.ntmps100
      go_wp2_with (first
        | (go_at_call 117; (with_reducible refine hC1.mono ?_); clear hC1; rintro e u1 ⟨rfl, HB1⟩; have hC2 := HC2.out u1 HB1.out)
        | (go_at_call 117; (with_reducible refine hC2.mono ?_); clear hC2; rintro e u2 ⟨rfl, HB2⟩; have hK := HK.out u2 HB2.out)
        | (go_at_call 119; (with_reducible refine hK.mono ?_); clear hK; rintro e u3 ⟨B, rfl, HX3, HB3⟩; have hG := HG.out u3 B HX3.out HB3.out)
        | (go_at_call 118; (with_reducible refine hG.mono ?_); clear hG; rintro e u4 ⟨va, vc, rfl, HO4, HB4⟩; have hLa := HLA.out u4 va vc HO4.out HB4.out)
        | (go_at_call 96; (with_reducible refine hLa.mono ?_); clear hLa; rintro e u5 ⟨rfl, HO5, HB5⟩; have hLf := HLF.out u5 va vc HO5.out HB5.out)
        | (go_at_call 96; (with_reducible refine hLf.mono ?_); clear hLf; rintro e u6 ⟨rfl, HO6, HB6⟩; have hT := HT.out u6 va vc HO6.out HB6.out)
        | (go_at_call 120; (with_reducible refine hT.mono ?_); clear hT; rintro e u7 ⟨rfl, HO7, HB7, HX7⟩; have hbt := below_box (w := u7) (.cells #[.int .i64 0, .string tx] 46); have HR7 : Hid (u7.heap[w.heap.size]? = some (.cells #[.int .i64 0, .slice none 0 0, .int .i64 0, .int .i64 0] 151 (0, 0))) := (HB7.out.block w.heap.size (by omega)).trans HR1.out; have HX8 := keepb HX7.out hbt; have HR8 := keepb HR7.out hbt; have HB8 : Hid (Below w.heap.size w (u7.alloc (.cells #[.int .i64 0, .string tx] 46))) := HBW.out _ (HB7.out.trans (hbt.mono (by have := HB7.out.size; simp at this; omega))); have HO8 : Hid (World.ownsRow (u7.alloc (.cells #[.int .i64 0, .string tx] 46)) (w.heap.size + 1) 2 1 (.slice va l.length vc) l.length (ints l)) := HO7.out.alloc _; obtain ⟨q0, q1, q2, q3, q4, q5, q6, q7⟩ := cells4 HR8.out; obtain ⟨x0, x1, x2⟩ := cells3 HX8.out; clear hbt))
      obtain ⟨j0, j1, j2, j3⟩ := four_set HR8.out (.int .i64 0) (.slice va l.length vc) (.int .i64 x) (.int .i64 y)
      refine bodyPost_ret (v := .agg #[.int .i64 0, .slice va l.length vc, .int .i64 x, .int .i64 y]) (by simp [results, Tryz.results100, go_sem, j0, j1, j2, j3]) rfl ?_
      refine ⟨four_belowR HB8.out (Nat.le_refl _) _ _ _ _, va, vc, by rw [HPR.out], ?_⟩
      rw [HPR.out]
      exact four_rowR HO8.out (by omega) (by omega) _ _ _ _

    · have HPR : Hid (prR t = (5, ([], 0, 0))) := by
        show _ = _
        rw [← HS.out, if_neg (fun q => he q.2)]
      have hE : (tx.toList == (str t).toList) = false := str_no (by
        rw [HCD.out.2 rfl]
        intro e
        apply he
        have h2 := congrArg (fun s : ByteArray => s.data.toList) e
        simpa [str] using h2)
      clear he
      go_enter Tryz.func100, Tryz.ntmps100
      go_wp2_with (first
        | (go_at_call 117; (with_reducible refine hC1.mono ?_); clear hC1; rintro e u1 ⟨rfl, HB1⟩; have hC2 := HC2.out u1 HB1.out)
        | (go_at_call 117; (with_reducible refine hC2.mono ?_); clear hC2; rintro e u2 ⟨rfl, HB2⟩; have hK := HK.out u2 HB2.out)
        | (go_at_call 119; (with_reducible refine hK.mono ?_); clear hK; rintro e u3 ⟨B, rfl, HX3, HB3⟩; have hG := HG.out u3 B HX3.out HB3.out)
        | (go_at_call 118; (with_reducible refine hG.mono ?_); clear hG; rintro e u4 ⟨va, vc, rfl, HO4, HB4⟩; have hLa := HLA.out u4 va vc HO4.out HB4.out)
        | (go_at_call 96; (with_reducible refine hLa.mono ?_); clear hLa; rintro e u5 ⟨rfl, HO5, HB5⟩; have hLf := HLF.out u5 va vc HO5.out HB5.out)
        | (go_at_call 96; (with_reducible refine hLf.mono ?_); clear hLf; rintro e u6 ⟨rfl, HO6, HB6⟩; have hT := HT.out u6 va vc HO6.out HB6.out)
        | (go_at_call 120; (with_reducible refine hT.mono ?_); clear hT; rintro e u7 ⟨rfl, HO7, HB7, HX7⟩; have hbt := below_box (w := u7) (.cells #[.int .i64 0, .string tx] 46); have HR7 : Hid (u7.heap[w.heap.size]? = some (.cells #[.int .i64 0, .slice none 0 0, .int .i64 0, .int .i64 0] 151 (0, 0))) := (HB7.out.block w.heap.size (by omega)).trans HR1.out; have HX8 := keepb HX7.out hbt; have HR8 := keepb HR7.out hbt; have HB8 : Hid (Below w.heap.size w (u7.alloc (.cells #[.int .i64 0, .string tx] 46))) := HBW.out _ (HB7.out.trans (hbt.mono (by have := HB7.out.size; simp at this; omega))); have HO8 : Hid (World.ownsRow (u7.alloc (.cells #[.int .i64 0, .string tx] 46)) (w.heap.size + 1) 2 1 (.slice va l.length vc) l.length (ints l)) := HO7.out.alloc _; obtain ⟨q0, q1, q2, q3, q4, q5, q6, q7⟩ := cells4 HR8.out; obtain ⟨x0, x1, x2⟩ := cells3 HX8.out; clear hbt))
      obtain ⟨j0, j1, j2, j3⟩ := four_set HR8.out (.int .i64 5) (.slice none 0 0) (.int .i64 0) (.int .i64 0)
      refine bodyPost_ret (v := .agg #[.int .i64 5, .slice none 0 0, .int .i64 0, .int .i64 0]) (by simp [results, Tryz.results100, go_sem, j0, j1, j2, j3]) rfl ?_
      refine ⟨four_belowR HB8.out (Nat.le_refl _) _ _ _ _, none, 0, by rw [HPR.out]; rfl, ?_⟩
      rw [HPR.out]
      exact World.ownsRow_nil _ _ _ _

  · have HPR : Hid (prR t = (5, ([], 0, 0))) := by
      show _ = _
      rw [← HS.out, if_neg (fun q => hz (HCD.out.1.trans q.1))]
    go_enter Tryz.func100, Tryz.ntmps100
    go_wp2_with (first
      | (go_at_call 117; (with_reducible refine hC1.mono ?_); clear hC1; rintro e u1 ⟨rfl, HB1⟩; have hC2 := HC2.out u1 HB1.out)
      | (go_at_call 117; (with_reducible refine hC2.mono ?_); clear hC2; rintro e u2 ⟨rfl, HB2⟩; have hK := HK.out u2 HB2.out)
      | (go_at_call 119; (with_reducible refine hK.mono ?_); clear hK; rintro e u3 ⟨B, rfl, HX3, HB3⟩; have hG := HG.out u3 B HX3.out HB3.out)
      | (go_at_call 118; (with_reducible refine hG.mono ?_); clear hG; rintro e u4 ⟨va, vc, rfl, HO4, HB4⟩; have hLa := HLA.out u4 va vc HO4.out HB4.out)
      | (go_at_call 96; (with_reducible refine hLa.mono ?_); clear hLa; rintro e u5 ⟨rfl, HO5, HB5⟩; have hLf := HLF.out u5 va vc HO5.out HB5.out)
      | (go_at_call 96; (with_reducible refine hLf.mono ?_); clear hLf; rintro e u6 ⟨rfl, HO6, HB6⟩; have hT := HT.out u6 va vc HO6.out HB6.out)
      | (go_at_call 120; (with_reducible refine hT.mono ?_); clear hT; rintro e u7 ⟨rfl, HO7, HB7, HX7⟩; have hbt := below_box (w := u7) (.cells #[.int .i64 cd, .string tx] 46); have HR7 : Hid (u7.heap[w.heap.size]? = some (.cells #[.int .i64 0, .slice none 0 0, .int .i64 0, .int .i64 0] 151 (0, 0))) := (HB7.out.block w.heap.size (by omega)).trans HR1.out; have HX8 := keepb HX7.out hbt; have HR8 := keepb HR7.out hbt; have HB8 : Hid (Below w.heap.size w (u7.alloc (.cells #[.int .i64 cd, .string tx] 46))) := HBW.out _ (HB7.out.trans (hbt.mono (by have := HB7.out.size; simp at this; omega))); have HO8 : Hid (World.ownsRow (u7.alloc (.cells #[.int .i64 cd, .string tx] 46)) (w.heap.size + 1) 2 1 (.slice va l.length vc) l.length (ints l)) := HO7.out.alloc _; obtain ⟨q0, q1, q2, q3, q4, q5, q6, q7⟩ := cells4 HR8.out; obtain ⟨x0, x1, x2⟩ := cells3 HX8.out; clear hbt))
    obtain ⟨j0, j1, j2, j3⟩ := four_set HR8.out (.int .i64 5) (.slice none 0 0) (.int .i64 0) (.int .i64 0)
    refine bodyPost_ret (v := .agg #[.int .i64 5, .slice none 0 0, .int .i64 0, .int .i64 0]) (by simp [results, Tryz.results100, go_sem, j0, j1, j2, j3]) rfl ?_
    refine ⟨four_belowR HB8.out (Nat.le_refl _) _ _ _ _, none, 0, by rw [HPR.out]; rfl, ?_⟩
    rw [HPR.out]
    exact World.ownsRow_nil _ _ _ _

end Go.Proofs.YtogidaebbelbfaaGreatDoor

namespace Go.Proofs.YtogidaebbelbfaaGreatDoor
open Go.RowKit Go.Shelf Go.Maps Go.WideMaps

section
variable {F : Fence} {m : Nat} {P : Program} {md : Region.Mode} {ops : Array Oper} {Q : Exit → Act → World → Prop}
/-- A drawn region within a fence, by what holds whatever has been done of it. -/
theorem wpAnyIn_inv (Inv : Array Bool → Act → World → Prop)
    (hs : ∀ L a w i, Inv L a w → i ∈ Region.ready md ops L → wpOpIn F m P ops Q i (Inv (L.setIfInBounds i true)) a w)
    (he : ∀ L a w, Inv L a w → Region.ready md ops L = [] → Q .normal a w) :
    ∀ (fuel : Nat) (L : Array Bool) (a : Act) (w : World), L.toList.count false ≤ fuel → Inv L a w → wpAnyIn F m P md ops Q fuel L a w
  | 0, L, a, w, hc, hI => by
    have hr : Region.ready md ops L = [] := by
      refine List.eq_nil_iff_forall_not_mem.2 fun i hi => ?_
      have h1 := listed_false (mem_ready.1 hi).1
      have h2 := List.count_pos_iff.2 (List.mem_of_getElem? h1)
      omega
    exact ⟨hr, he L a w hI hr⟩
  | fuel + 1, L, a, w, hc, hI => by
    refine ⟨fun h0 => he L a w hI h0, fun i hi => wpOpIn_mono (fun a' w' h' => wpAnyIn_inv Inv hs he fuel _ a' w' ?_ h') (hs L a w i hI hi)⟩
    have h1 := count_set_lt (listed_false (mem_ready.1 hi).1)
    rw [Array.toList_setIfInBounds]
    omega
theorem wpOpIn_run {i : Nat} {o : Oper} {a : Act} {w : World} {K : Act → World → Prop} (ho : ops[i]? = some o) (hg : o.guard = none)
    (h : ∀ K' : Act → World → Prop, (∀ a w, K a w → K' a w) → if Region.wanted o (yielded ops a.tmps) = true then Oper.wpIn F m P o a w K' Q else False) : wpOpIn F m P ops Q i K a w := by
  unfold wpOpIn
  rw [ho]
  have := h K (fun _ _ h => h)
  simp only [Region.wanted, hg, if_true] at this ⊢
  exact this
end

theorem looseN_in (s : List UInt8) : -9223372036854775808 ≤ looseN s ∧ looseN s ≤ 9223372036854775807 := by
  unfold looseN
  split
  · rename_i v h
    have := Lib.parseIntB_bounds h
    have e : ((2 ^ (64 - 1) : Nat) : Int) = 9223372036854775808 := by decide
    rw [e] at this
    omega
  all_goals decide
theorem writeNumZ_any {k : Int} (h0 : -9223372036854775808 ≤ k) (h1 : k ≤ 9223372036854775807) (w : World) (hT : Tb w) : Calls Tryz.prog 97 #[.int .i64 k] w fun e w' => e = .returned (.string (str (Lib.itoa k))) ∧ Below w.heap.size w w' := by
  have hf := Tryz.strconv_FormatInt_10 k h0 h1 w hT
  have e1 : (⟨(Lib.itoa k).toArray⟩ : ByteArray) = str (Lib.itoa k) := rfl
  rw [e1] at hf
  obtain ⟨s, hs⟩ : ∃ s, s = str (Lib.itoa k) := ⟨_, rfl⟩
  rw [← hs] at hf ⊢
  clear hT e1 hs h0 h1
  go_enter Tryz.func97, Tryz.ntmps97
  go_wp2_with (go_at_call 115; refine hf.mono ?_; rintro e w' ⟨rfl, q, os, rfl⟩)
  go_ret
  exact ⟨rfl, Lib.below_grow _ _ (Nat.le_refl _) _ _⟩

/-- What a reader ends with. -/
def endR {α : Type} (o : Option α) (g : α → Value) : Ending := match o with
  | some v => .returned (g v)
  | none => .panicked pnC

set_option maxHeartbeats 1000000 in
theorem readNumber_any (s : List UInt8) (w : World) (hs : s.length ≤ 1048576) (hE : Erv w) (hT : Tb w) :
    Calls Tryz.prog 88 #[.string (str s)] w fun e w' => e = endR (rnum s) (fun v => .int .i64 v) ∧ Below w.heap.size w w' := by
  have hL := looseNumber_any s w hs hE
  have hbd := looseN_in s
  obtain ⟨v, hv⟩ : ∃ v, v = looseN s := ⟨_, rfl⟩
  have hr : rnum s = if Lib.itoa v = s then some v else none := by rw [hv]; rfl
  rw [← hv] at hL hbd
  have HW : Hid (∀ W, Below w.heap.size w W → Calls Tryz.prog 97 #[.int .i64 v] W fun e w' => e = .returned (.string (str (Lib.itoa v))) ∧ Below W.heap.size W w') := fun W hW => writeNumZ_any hbd.1 hbd.2 W (hT.below hW (Nat.le_refl _))
  obtain ⟨tx, htx⟩ : ∃ t, t = str (Lib.itoa v) := ⟨_, rfl⟩
  rw [← htx] at HW
  by_cases hz : Lib.itoa v = s
  · have hq : endR (rnum s) (fun v => Value.int .i64 v) = .returned (.int .i64 v) := by rw [hr, if_pos hz]; rfl
    rw [hq]
    have hEq : (tx.toList == (str s).toList) = true := str_yes (by rw [htx, hz])
    clear hq hr hv hbd hE hT htx hz
    go_enter Tryz.func88, Tryz.ntmps88
    go_wp2_with (first
      | (go_at_call 96; (with_reducible refine hL.mono ?_); clear hL; rintro e w2 ⟨rfl, hb2⟩; have HB2 : Hid (Below w.heap.size w w2) := hb2; have hW := HW.out w2 hb2; clear hb2)
      | (go_at_call 97; (with_reducible refine hW.mono ?_); clear hW; rintro e w3 ⟨rfl, hb3⟩; have HB3 : Hid (Below w.heap.size w w3) := HB2.out.trans (hb3.mono HB2.out.size); clear hb3))
    go_ret
    exact ⟨rfl, HB3.out⟩
  · have hq : endR (rnum s) (fun v => Value.int .i64 v) = .panicked pnC := by rw [hr, if_neg hz]; rfl
    rw [hq]
    have hEq : (tx.toList == (str s).toList) = false := str_no (by
      rw [htx]
      intro e
      apply hz
      have := congrArg (fun b : ByteArray => b.data.toList) e
      simpa [str] using this)
    clear hq hr hv hbd hE hT htx hz
    go_enter Tryz.func88, Tryz.ntmps88
    go_wp2_with (first
      | (go_at_call 96; (with_reducible refine hL.mono ?_); clear hL; rintro e w2 ⟨rfl, hb2⟩; have HB2 : Hid (Below w.heap.size w w2) := hb2; have hW := HW.out w2 hb2; clear hb2)
      | (go_at_call 97; (with_reducible refine hW.mono ?_); clear hW; rintro e w3 ⟨rfl, hb3⟩; have HB3 : Hid (Below w.heap.size w w3) := HB2.out.trans (hb3.mono HB2.out.size); clear hb3))
    exact ⟨rfl, rfl, HB3.out⟩

/-- What a cut is of. -/
def cutO (s : List UInt8) (c : UInt8) : Option (List UInt8 × List UInt8) := if (Lib.cut s [c]).2.2 = true then some ((Lib.cut s [c]).1, (Lib.cut s [c]).2.1) else none
theorem cutAt_any (s : List UInt8) (c : UInt8) (m : Int) (w : World) (hs : s.length ≤ 1048576) (hm : w.cell? ⟨1, 0, none⟩ = some (.int .i64 m)) :
    Calls Tryz.prog 99 #[.string (str s), .string ⟨#[c]⟩] w fun e w' => e = endR (cutO s c) (fun p => .tuple #[.string (str p.1), .string (str p.2)]) ∧ Below w.heap.size w w' := by
  have ed : ∀ z : List UInt8, (str z).data.toList = z := fun z => by simp [str]
  have ez : ∀ z : List UInt8, (str z).size = z.length := fun z => by show z.toArray.size = _; simp
  obtain ⟨⟨p, q, f⟩, hr⟩ : ∃ r, Lib.cut s [c] = r := ⟨_, rfl⟩
  have hC : Calls Tryz.prog 117 #[.string (str s), .string ⟨#[c]⟩] w fun e w' => e = .returned (.tuple #[.string (str p), .string (str q), .bool f]) ∧ Hid (Below w.heap.size w w') := by
    refine (Tryz.strings_Cut (str s) ⟨#[c]⟩ m w (by rw [ez]; omega) hm).mono fun e w' ⟨h1, n, h2⟩ => ⟨?_, ?_⟩
    · rw [h1, ed]
      show Ending.returned (.tuple #[.string (str (Lib.cut s [c]).1), .string (str (Lib.cut s [c]).2.1), .bool (Lib.cut s [c]).2.2]) = _
      rw [hr]
    · show Below _ _ _
      rw [h2]; exact below_drewN (Below.refl _ _) n
  have hq : cutO s c = if f = true then some (p, q) else none := by unfold cutO; rw [hr]
  clear hr hm ed ez
  cases f
  · rw [hq, if_neg (by simp)]
    show Calls _ _ _ _ fun e w' => e = .panicked pnC ∧ _
    go_enter Tryz.func99, Tryz.ntmps99
    go_wp2_with (go_at_call 117; (with_reducible refine hC.mono ?_); clear hC; rintro e w2 ⟨rfl, HB2⟩)
    exact ⟨rfl, rfl, HB2.out⟩
  · rw [hq, if_pos rfl]
    show Calls _ _ _ _ fun e w' => e = .returned (.tuple #[.string (str p), .string (str q)]) ∧ _
    go_enter Tryz.func99, Tryz.ntmps99
    go_wp2_with (go_at_call 117; (with_reducible refine hC.mono ?_); clear hC; rintro e w2 ⟨rfl, HB2⟩)
    refine bodyPost_ret (v := .tuple #[.string (str p), .string (str q)]) (by simp [results, Tryz.results99, go_sem]) rfl ?_
    exact ⟨rfl, HB2.out⟩

/-- The words that are left, behind the reader R. -/
structure WdR (w : World) (R g : Nat) (ws : List (List UInt8)) (j : Nat) : Prop where
  box : ∃ a, w.heap[R]? = some (.cells #[.slice a (ws.length - j) (ws.length - j)] 133 (0, 0)) ∧ (j < ws.length → a = some ⟨g, j, none⟩)
  row : w.heap[g]? = some (.cells (texts ws).toArray 9 (0, 0))
  ne : R ≠ g
  few : ws.length ≤ 1048576
theorem WdR.cell {w : World} {R g j : Nat} {ws : List (List UInt8)} (h : WdR w R g ws j) {i : Nat} (hi : i < ws.length) : w.cell? ⟨g, i, none⟩ = some (.string (str (ws.getD i []))) := by
  unfold World.cell?
  rw [h.row]
  simp [texts, List.getD, hi]
theorem WdR.chg {w w' : World} {R g j : Nat} {ws : List (List UInt8)} (h : WdR w R g ws j) (hb : Below w.heap.size w w') : WdR w' R g ws j := by
  obtain ⟨a, h1, h2⟩ := h.box
  exact ⟨⟨a, (keepb h1 hb).out, h2⟩, (keepb h.row hb).out, h.ne, h.few⟩

/-- What the reader's next word is. -/
def NextO (w w' : World) (e : Ending) (R g j : Nat) (ws : List (List UInt8)) : Prop := (j < ws.length ∧ e = .returned (.string (str (ws.getD j []))) ∧ WdR w' R g ws (j + 1) ∧ Chg w w' R (R + 1)) ∨ (¬ j < ws.length ∧ e = .panicked pnC ∧ w' = w)
set_option maxHeartbeats 1000000 in
theorem next_any (R g j : Nat) (ws : List (List UInt8)) (w : World) (h : WdR w R g ws j) :
    Calls Tryz.prog 86 #[.pointer (some ⟨R, 0, none⟩)] w fun e w' => NextO w w' e R g j ws := by
  obtain ⟨a, h1, h2⟩ := h.box
  have c0 : w.cell? ⟨R, 0, none⟩ = some (.slice a (ws.length - j) (ws.length - j)) := by unfold World.cell?; rw [h1]; rfl
  have f0 := Joins.unfrozen_of_block h1 0
  by_cases hj : j < ws.length
  · obtain rfl := h2 hj
    obtain ⟨N, hN⟩ : ∃ N, N = ws.length - j := ⟨_, rfl⟩
    have cj := h.cell hj
    obtain ⟨x, hx⟩ : ∃ x, x = str (ws.getD j []) := ⟨_, rfl⟩
    rw [← hx] at cj
    have HX2 : Hid (x = str (ws.getD j [])) := hx
    rw [← hN] at c0 h1
    have hN0 : ¬ ((N : Int) == 0) = true := by simp; omega
    have hN1 : ((N : Int) == 0) = false := by simp; omega
    have hN2 : (0 : Int) < (N : Int) := by omega
    have hN3 : (1 : Int) ≤ (N : Int) := by omega
    have hN4 : 1 ≤ N := by omega
    have hN5 : 0 < N := by omega
    have hN6 : ¬ N = 0 := by omega
    have HX : Hid (w.heap[R]? = some (.cells #[.slice (some ⟨g, j, none⟩) N N] 133 (0, 0))) := h1
    have HN : Hid (N = ws.length - j) := hN
    have HH : Hid (WdR w R g ws j) := h
    have hle := h.few
    have hNl : N ≤ 1048576 := by omega
    have key : ∀ a', (¬ N = 1 → a' = some ⟨g, j + 1, none⟩) → WdR (w.setCell ⟨R, 0, none⟩ (.slice a' (N - 1) (N - 1))) R g ws (j + 1) ∧ Chg w (w.setCell ⟨R, 0, none⟩ (.slice a' (N - 1) (N - 1))) R (R + 1) := fun a' ha => by
      have hr := HH.out.row
      have hn := HH.out.ne
      refine ⟨⟨⟨a', ?_, fun hlt => ha (by have := HN.out; omega)⟩, (Below.heap_setCell _ ⟨R, 0, none⟩ _ g (Ne.symm hn)).trans hr, hn, HH.out.few⟩, (Chg.refl _ _ _).setCell ⟨Nat.le_refl _, by omega⟩ _⟩
      have := Joins.block_setCell (i := 0) HX.out (.slice a' (N - 1) (N - 1))
      have e : ws.length - (j + 1) = N - 1 := by have := HN.out; omega
      rw [e]
      simpa using this
    have HK := show Hid _ from key
    clear h h1 h2 hN hx key hle
    by_cases h1 : N = 1
    · subst h1
      go_enter Tryz.func86, Tryz.ntmps86
      go_wp2
      go_ret
      have q := HK.out (some ⟨g, j, none⟩) (by intro e; simp at e)
      exact .inl ⟨hj, by rw [← HX2.out]; rfl, q.1, q.2⟩
    · have h5 : ¬ N - 1 = 0 := by omega
      go_enter Tryz.func86, Tryz.ntmps86
      go_wp2
      go_ret
      have q := HK.out (some ⟨g, j + 1, none⟩) (fun _ => rfl)
      exact .inl ⟨hj, by rw [← HX2.out]; rfl, q.1, q.2⟩
  · have e : ws.length - j = 0 := by omega
    rw [e] at c0
    clear h h1 h2
    go_enter Tryz.func86, Tryz.ntmps86
    go_wp2
    exact ⟨rfl, .inr ⟨hj, rfl, rfl⟩⟩

/-- The kind that a word names. -/
def kindO (s : List UInt8) : Option Int := if s = [112, 97, 121] then some 0 else if s = [106, 111, 105, 110] then some 1 else if s = [108, 101, 97, 118, 101] then some 2 else none
set_option maxRecDepth 20000 in
set_option maxHeartbeats 2000000 in
theorem readKind_any (s : List UInt8) (w : World) (hE : Ev w) :
    Calls Tryz.prog 85 #[.string (str s)] w fun e w' => e = endR (kindO s) (fun v => .int .i64 v) ∧ w' = w := by
  obtain ⟨c0, c1, c2⟩ := kn_cells hE
  obtain ⟨n0, h0⟩ : ∃ z, z = str [112, 97, 121] := ⟨_, rfl⟩
  obtain ⟨n1, h1⟩ : ∃ z, z = str [106, 111, 105, 110] := ⟨_, rfl⟩
  obtain ⟨n2, h2⟩ : ∃ z, z = str [108, 101, 97, 118, 101] := ⟨_, rfl⟩
  rw [← h0] at c0
  rw [← h1] at c1
  rw [← h2] at c2
  have hne : ∀ {l : List UInt8}, ¬ s = l → ((str l).toList == (str s).toList) = false := fun {l} hn => str_no (by
    intro e
    apply hn
    have := congrArg (fun b : ByteArray => b.data.toList) e
    simpa [str] using this.symm)
  clear hE
  have i0 : ∀ v : World, (Instr.index 144 (.agg #[.string n0, .string n1, .string n2]) (.int .i64 0)).run Tryz.prog v = .ok (.string n0) v := fun v => by kernel_rfl
  have i1 : ∀ v : World, (Instr.index 144 (.agg #[.string n0, .string n1, .string n2]) (.int .i64 1)).run Tryz.prog v = .ok (.string n1) v := fun v => by kernel_rfl
  have i2 : ∀ v : World, (Instr.index 144 (.agg #[.string n0, .string n1, .string n2]) (.int .i64 2)).run Tryz.prog v = .ok (.string n2) v := fun v => by kernel_rfl
  unfold kindO
  by_cases k0 : s = [112, 97, 121]
  · rw [if_pos k0]
    show Calls _ _ _ _ fun e w' => e = .returned (.int .i64 0) ∧ _
    have q0 : (n0.toList == (str s).toList) = true := str_yes (by rw [h0, k0])
    clear hne h0 h1 h2 k0
    go_enter Tryz.func85, Tryz.ntmps85
    go_wp2
    refine wp_loop_rounds 1 ?_
    rw [rounds_succ]
    go_wp2
    go_ret
    exact ⟨rfl, rfl⟩
  · rw [if_neg k0]
    have q0 : (n0.toList == (str s).toList) = false := by rw [h0]; exact hne k0
    by_cases k1 : s = [106, 111, 105, 110]
    · rw [if_pos k1]
      show Calls _ _ _ _ fun e w' => e = .returned (.int .i64 1) ∧ _
      have q1 : (n1.toList == (str s).toList) = true := str_yes (by rw [h1, k1])
      clear hne h0 h1 h2 k0 k1
      go_enter Tryz.func85, Tryz.ntmps85
      go_wp2
      refine wp_loop_rounds 2 ?_
      rw [rounds_succ]
      go_wp2
      rw [rounds_succ]
      go_wp2
      go_ret
      exact ⟨rfl, rfl⟩
    · rw [if_neg k1]
      have q1 : (n1.toList == (str s).toList) = false := by rw [h1]; exact hne k1
      by_cases k2 : s = [108, 101, 97, 118, 101]
      · rw [if_pos k2]
        show Calls _ _ _ _ fun e w' => e = .returned (.int .i64 2) ∧ _
        have q2 : (n2.toList == (str s).toList) = true := str_yes (by rw [h2, k2])
        clear hne h0 h1 h2 k0 k1 k2
        go_enter Tryz.func85, Tryz.ntmps85
        go_wp2
        refine wp_loop_rounds 3 ?_
        rw [rounds_succ]
        go_wp2
        rw [rounds_succ]
        go_wp2
        rw [rounds_succ]
        go_wp2
        go_ret
        exact ⟨rfl, rfl⟩
      · rw [if_neg k2]
        show Calls _ _ _ _ fun e w' => e = .panicked pnC ∧ _
        have q2 : (n2.toList == (str s).toList) = false := by rw [h2]; exact hne k2
        clear hne h0 h1 h2 k0 k1 k2
        go_enter Tryz.func85, Tryz.ntmps85
        go_wp2
        refine wp_loop_rounds 4 ?_
        rw [rounds_succ]
        go_wp2
        rw [rounds_succ]
        go_wp2
        rw [rounds_succ]
        go_wp2
        rw [rounds_succ]
        go_wp2
        exact ⟨rfl, rfl, rfl⟩

end Go.Proofs.YtogidaebbelbfaaGreatDoor

namespace Go.Proofs.YtogidaebbelbfaaGreatDoor
open Go.RowKit Go.Shelf Go.Maps Go.WideMaps
attribute [local go_sem] Oper.semAt_some

/-- What the gathering keeps. -/
def GathR (w : World) (pre : List (List UInt8)) (W : World) : Prop := (∃ va vn vc, ∃ rs : List (Int × Int), pre.map rref = rs.map some ∧ Boxed W w.heap.size 27 (.slice va vn vc) ∧ W.ownsRow w.heap.size 115 2 (.slice va vn vc) pre.length (gcells rs)) ∧ Below w.heap.size w W
theorem GathR.own {w : World} {p : Nat → Prop} (hp : ∀ r, p r → w.heap.size < r) : OwnBy p (GathR w) := by
  rintro s A C row ⟨⟨va, vn, vc, rs, hrs, hv, hrow⟩, hB⟩ hg hr
  refine ⟨⟨va, vn, vc, rs, hrs, hv.kept hg (fun e => ?_), hrow.kept hg ?_⟩, hB.grown hg hB.size (fun k e => Nat.le_of_lt (hp k (hr k e).1))⟩
  · have := hp _ (hr _ e.symm).1; omega
  · rcases hrow.2 with ⟨q0, _⟩ | ⟨g, cap, cur, q0, _, hgb, _⟩
    · rw [q0]; exact .inl rfl
    · rw [q0]
      refine .inr fun e' => ?_
      obtain ⟨_, o, ho, ht⟩ := hr g (by simpa [Value.ownBlock] using e'.symm)
      rw [hgb] at ho
      cases ho
      rcases ht with q | ⟨cs, fz, q⟩
      · cases q
      · injection q with _ h _
        exact absurd h (by decide)
theorem gcellsP_more (rs : List (Int × Int)) (r1 r2 : Int) : gcells (rs ++ [(r1, r2)]) = gcells rs ++ [.int .i64 r1, .int .i64 r2] := by simp [gcells]

/-- Behind the store. -/
def FinR (W v : World) (B N : Nat) (xs0 : List Value) (g cap : Nat) (r1 r2 : Int) : Prop :=
  Boxed v B 27 (.slice (some ⟨g, 0, none⟩) (N + 1) cap) ∧ v.ownsRow B 115 2 (.slice (some ⟨g, 0, none⟩) (N + 1) cap) (N + 1) (xs0 ++ [.int .i64 r1, .int .i64 r2]) ∧ KeepsOthers W v ∧ Below B W v ∧ ∀ q : Nat → Obj → Prop, (∀ j o, q j o → j ≠ B ∧ (B ≤ j → NoRf o)) → KeptK q W v
/-- A ref more. -/
theorem refP_added {W w2 : World} {B N : Nat} {v : Value} {xs0 : List Value} (r1 r2 : Int) (hv : Boxed W B 27 v) (hrow : W.ownsRow B 115 2 v N xs0) (hb : Below W.heap.size W w2) (hB : B ≤ W.heap.size) (hk : N ≤ 4000000) :
    ∃ g cap w3, (Builtin.append_ #[27, 27] 27 #[v, .slice (some ⟨w2.heap.size, 0, none⟩) 1 1]).run Tryz.prog (w2.alloc (.cells #[.int .i64 r1, .int .i64 r2] 115)) = .ok (.slice (some ⟨g, 0, none⟩) (N + 1) cap) w3 ∧
      (w3.cell? ⟨B, 0, none⟩ = some v ∧ w3.frozen? ⟨B, 0, none⟩ = false) ∧ FinR W (w3.setCell ⟨B, 0, none⟩ (.slice (some ⟨g, 0, none⟩) (N + 1) cap)) B N xs0 g cap r1 r2 := by
  obtain ⟨i0, hi, hz0, hz1, hz2⟩ := info_parts Tryz.infoRef
  have hg2 := grown_of_below hb
  have hv2 : Boxed w2 B 27 v := hv.kept hg2 (fun e' => by cases e')
  have hrow2 : w2.ownsRow B 115 2 v N xs0 := hrow.kept hg2 (by cases Value.ownBlock v <;> simp)
  have hs2 := hb.size
  obtain ⟨v', w3, hrun, hown', hgrow, _⟩ := run_append_own (P := Tryz.prog) (w2.alloc (.cells #[.int .i64 r1, .int .i64 r2] 115)) B 27 27 115 i0 (.agg #[.int .i64 0, .int .i64 0]) 2 16 Tryz.underlying27 hi hz0 hz1 hz2 rfl (by decide) v N _ (hrow2.alloc _) ⟨w2.heap.size, 0, none⟩ 1 1 [.int .i64 r1, .int .i64 r2] rfl (World.news_of_block (heap_alloc_new _ _)) (by simp [Value.oneCell']) (by unfold maxLen; omega) (by omega) (by simp; omega)
  obtain ⟨g, cap, rfl⟩ := ownsRow_succ hown'
  obtain ⟨hv3, hv4, hr4, hk4, hb4⟩ := hv2.appended (by decide) hrow2 (by omega) (Nat.le_refl _) hown' hgrow
  have hk2 : KeepsOthers W w2 := ⟨hs2, fun j _ hj _ => (hb.block j (Array.getElem?_eq_some_iff.1 hj).1).trans hj⟩
  refine ⟨g, cap, w3, hrun, ⟨hv3.cell, hv3.frozen⟩, hv4, hr4, hk2.trans hk4, (hb.mono hB).trans hb4, fun q hq => ?_⟩
  intro j o hj hp
  obtain ⟨h1, h2⟩ := hq j o hp
  have hjl := lt_of_block hj
  have hj2 := (hb.block j hjl).trans hj
  refine (Below.heap_setCell _ ⟨B, 0, none⟩ _ j h1).trans ((hgrow.block j (by simp; omega) (fun e => ?_)).trans ((Below.heap_alloc _ _ _ (lt_of_block hj2)).trans hj2))
  rcases hrow2.2 with ⟨rfl, _⟩ | ⟨g', cap', cur, rfl, hbb, hgb, _⟩
  · simp [Value.ownBlock] at e
  · obtain rfl : j = g' := by simpa [Value.ownBlock] using e
    rw [hgb] at hj2
    cases hj2
    exact h2 hbb _ _ rfl

/-- What holds in the midst of the region, whatever has been done of it. -/
structure Rr5 (W : World) (B N : Nat) (vr : Value) (xs0 : List Value) (pa pb : List UInt8) (v : World) (b0 b1 b2 b3 b4 b5 b6 b7 b8 : Bool) (x15 x16 x17 x18 x19 x20 x21 x22 : Value) : Prop where
  bel : b6 = false → Below W.heap.size W v
  cb : b7 = false → v.cell? ⟨B, 0, none⟩ = some vr
  f0 : b0 = true → x15 = vr
  f1 : b1 = true → x16 = .string (str pa)
  f2 : b2 = true → ∃ r1, rnum pa = some r1 ∧ x17 = .int .i64 r1
  f3 : b3 = true → x18 = .string (str pb)
  f4 : b4 = true → ∃ r2, rnum pb = some r2 ∧ x19 = .int .i64 r2
  f5 : b5 = true → ∃ r1 r2, rnum pa = some r1 ∧ rnum pb = some r2 ∧ x20 = .agg #[.int .i64 r1, .int .i64 r2]
  f6 : b6 = true → b7 = false → ∃ u r1 r2, rnum pa = some r1 ∧ rnum pb = some r2 ∧ Below W.heap.size W u ∧ v = u.alloc (.cells #[.int .i64 r1, .int .i64 r2] 115) ∧ x21 = .slice (some ⟨u.heap.size, 0, none⟩) 1 1
  f7 : b7 = true → b8 = false → ∃ g cap r1 r2, rnum pa = some r1 ∧ rnum pb = some r2 ∧ x22 = .slice (some ⟨g, 0, none⟩) (N + 1) cap ∧ v.cell? ⟨B, 0, none⟩ = some vr ∧ v.frozen? ⟨B, 0, none⟩ = false ∧ FinR W (v.setCell ⟨B, 0, none⟩ (.slice (some ⟨g, 0, none⟩) (N + 1) cap)) B N xs0 g cap r1 r2
  o4 : b4 = true → b2 = true
  o5 : b5 = true → b4 = true
  o6 : b6 = true → b5 = true
  o7 : b7 = true → b6 = true ∧ b0 = true
  o8 : b8 = true → b7 = true
  f8 : b8 = true → ∃ g cap r1 r2, rnum pa = some r1 ∧ rnum pb = some r2 ∧ FinR W v B N xs0 g cap r1 r2
section
variable {W : World} {B N : Nat} {vr : Value} {xs0 : List Value} {pa pb : List UInt8} {v v2 : World} {b0 b1 b2 b3 b4 b5 b6 b7 b8 : Bool} {x15 x16 x17 x18 x19 x20 x21 x22 : Value}
theorem Rr5.mem (H : Rr5 W B N vr xs0 pa pb v b0 b1 b2 b3 b4 b5 false false false x15 x16 x17 x18 x19 x20 x21 x22) (hBl : B < W.heap.size) (hb : Below v.heap.size v v2) : Rr5 W B N vr xs0 pa pb v2 b0 b1 b2 b3 b4 b5 false false false x15 x16 x17 x18 x19 x20 x21 x22 where
  bel h := (H.bel h).trans (hb.mono (H.bel h).size)
  cb h := (hb.cell (p := ⟨B, 0, none⟩) (Nat.lt_of_lt_of_le hBl (H.bel rfl).size)).trans (H.cb h)
  f0 := H.f0
  f1 := H.f1
  f2 := H.f2
  f3 := H.f3
  f4 := H.f4
  f5 := H.f5
  f6 h := by cases h
  f7 h := by cases h
  f8 h := by cases h
  o4 := H.o4
  o5 := H.o5
  o6 h := by cases h
  o7 h := by cases h
  o8 h := by cases h
end

/-- What a round leaves. -/
def BodyR (w w4 : World) (t : List UInt8) (pre : List (List UInt8)) (x : List UInt8) (W : World) (e : Exit) (a' : Act) (W' : World) : Prop :=
  (e = .normal ∧ KeepsOthers W W' ∧ KeptK (fun k o => ((k = w.heap.size + 1 ∨ k = w.heap.size + 1 + 1 ∨ k = w.heap.size + 1 + 1 + 1) ∧ NoRf o) ∨ (w4.heap.size ≤ k ∧ NoRf o)) W W' ∧ GathR w (pre ++ [x]) W') ∨ (e = .panic pnC ∧ a'.defers = [] ∧ KeepsOthers W W' ∧ Below w.heap.size w W' ∧ mapO rref (cutL 43 t) = none)
theorem keeps_of_below {W W' : World} (hb : Below W.heap.size W W') : KeepsOthers W W' := ⟨hb.size, fun j _ hj _ => (hb.block j (lt_of_block hj)).trans hj⟩
theorem rref_of {p : List UInt8} {pa pb : List UInt8} (h : cutO p 58 = some (pa, pb)) : rref p = (match rnum pa, rnum pb with
    | some a, some b => some (a, b)
    | _, _ => none) := by
  unfold cutO at h
  unfold rref
  split at h
  · rename_i hc
    rw [if_pos hc]
    simp only [Option.some.injEq, Prod.mk.injEq] at h
    rw [h.1, h.2]
    cases rnum pa <;> cases rnum pb <;> rfl
  · cases h
theorem rref_cut {p : List UInt8} (h : cutO p 58 = none) : rref p = none := by
  unfold cutO at h
  unfold rref
  split at h
  · cases h
  · rename_i hc; rw [if_neg hc]
theorem cutO_len {p : List UInt8} {c : UInt8} {pa pb : List UInt8} (h : cutO p c = some (pa, pb)) : pa.length ≤ p.length ∧ pb.length ≤ p.length := by
  unfold cutO at h
  split at h
  · simp only [Option.some.injEq, Prod.mk.injEq] at h
    have := cut_len p [c]
    rw [h.1, h.2] at this
    simp at this
    omega
  · cases h

/-- What readRefs leaves. -/
def OutRs (w w' : World) (e : Ending) (t : List UInt8) : Prop := Below w.heap.size w w' ∧ ((∃ va vn vc, ∃ rs : List (Int × Int), mapO rref (cutL 43 t) = some rs ∧ e = .returned (.slice va vn vc) ∧ w'.ownsRow w.heap.size 115 2 (.slice va vn vc) rs.length (gcells rs)) ∨ (mapO rref (cutL 43 t) = none ∧ e = .panicked pnC))
theorem some_len {ls : List (List UInt8)} {rs : List (Int × Int)} (h : ls.map rref = rs.map some) : ls.length = rs.length := by
  have := congrArg List.length h
  simpa using this

set_option maxRecDepth 100000 in
set_option maxHeartbeats 8000000 in
theorem readRefs_any (t : List UInt8) (m : Int) (w : World) (ht : t.length ≤ 1048576) (hm : w.cell? ⟨1, 0, none⟩ = some (.int .i64 m)) (hE : Erv w) (hTb : Tb w) :
    Calls Tryz.prog 89 #[.string (str t)] w fun e w' => OutRs w w' e t := by
  have hlm := World.block_lt_of_cell? _ _ hm
  have HM : Hid (∀ u, Below w.heap.size w u → u.cell? ⟨1, 0, none⟩ = some (.int .i64 m)) := fun u h => (h.cell (p := ⟨1, 0, none⟩) hlm).trans hm
  have HE : Hid (∀ u, Below w.heap.size w u → Erv u ∧ Tb u) := fun u h => ⟨hE.below h, hTb.below h (Nat.le_refl _)⟩
  have hs1 : (w.alloc (.cells #[.slice none 0 0] 27)).heap.size = w.heap.size + 1 := by simp
  have hsp := SplitSeq_any (str t) ⟨#[43]⟩ (w.alloc (.cells #[.slice none 0 0] 27))
  rw [hs1] at hsp
  obtain ⟨k0, k1, k2, k3, k4⟩ := blocks4 w (.cells #[.slice none 0 0] 27) (.cells #[.string (str t)] 9) (.cells #[.string ⟨#[43]⟩] 9) (.cells #[.int .i64 0] 3)
  obtain ⟨w4, hw4⟩ : ∃ V, V = ((((w.alloc (.cells #[.slice none 0 0] 27)).alloc (.cells #[.string (str t)] 9)).alloc (.cells #[.string ⟨#[43]⟩] 9)).alloc (.cells #[.int .i64 0] 3)) := ⟨_, rfl⟩
  have hb4 : Below w.heap.size w w4 := by
    rw [hw4]
    exact (below_box2 _ _).trans ((below_box2 _ _).mono (below_box2 _ _).size)
  have hO4 : w4.ownsRow w.heap.size 115 2 (.slice none 0 0) 0 [] := World.ownsRow_nil _ _ _ _
  have hV4 : Boxed w4 w.heap.size 27 (.slice none 0 0) := by
    rw [hw4]
    exact (((Boxed.new w 27 (.slice none 0 0)).alloc _).alloc _).alloc _
  rw [← hw4] at hsp k0 k1 k2 k3 k4
  clear hw4 hm hlm hE hTb hs1
  refine calls_of_wpX (n := 3) Tryz.func89 rfl ?_
  simp only [Tryz.ntmps89, List.size_toArray, List.length_cons, List.length_nil, Nat.reduceAdd, Nat.reduceSub, Array.replicate_succ, Array.replicate_zero, List.push_toArray, List.append_toArray, List.nil_append, List.cons_append]
  refine wpX_seq ?_
  refine wpX_of (n := 3) ?_
  gi_wp2
  refine wpX_seq ?_
  refine wpX_of (n := 3) ?_
  gi_wp2
  refine wpX_seq ?_
  refine wpX_seq ?_
  refine wpX_of (n := 3) ?_
  gi_wp2_with (first | (refine ⟨trivial, ?_⟩; gi_at_call 98; refine (callsIn_wide.2 hsp).mono ?_; rintro e w' ⟨rfl, hw⟩; have hw2 := hw.symm; subst hw2))
  refine wpX_block ?_
  refine range_allP (gf := 136) (lb := #[.pointer (some ⟨w.heap.size + 1 + 1, 0, none⟩), .pointer (some ⟨w.heap.size + 1, 0, none⟩), .pointer (some ⟨w.heap.size + 1 + 1 + 1, 0, none⟩)]) rfl (enters_of Tryz.func136 (by kernel_rfl) rfl)
    (split_tellsP (w.heap.size + 1) (w.heap.size + 1 + 1) (w.heap.size + 1 + 1 + 1) 43 t w4 ht k1 k2 k3 (by omega) (by omega)) (fun r e => by omega) (fun r o e => by have := e.1; omega) (Nat.le_refl _) (fun _ _ h _ => h) (fun _ => rfl)
    (GathR w) (GathR.own (fun r e => by rcases e with q | q <;> omega)) (fun V => Below w.heap.size w V ∧ mapO rref (cutL 43 t) = none) ⟨⟨none, 0, 0, [], rfl, hV4, hO4⟩, hb4⟩
    (fun x => { tmps := #[.string (str t), undef, .slice none 0 0, .pointer (some ⟨w.heap.size, 0, none⟩), .string (str x), undef, undef, .string (str t), .func (.func 136) #[] #[.pointer (some ⟨w.heap.size + 1 + 1, 0, none⟩), .pointer (some ⟨w.heap.size + 1, 0, none⟩), .pointer (some ⟨w.heap.size + 1 + 1 + 1, 0, none⟩)], .string (str x), undef, undef, undef, undef, undef, undef, undef, undef, undef, undef, undef, undef, undef, undef], defers := [] }) ?assign ?body ?done ?pan
  case assign =>
    intro l x V K hK
    gi_wp2
    exact hK
  case body =>
    rintro l pre x W hx ⟨⟨va, vn, vc, rs, hrs, hv, hrow⟩, hB⟩ hlen
    show Code.wpIn _ _ _ _ (fun e a' W' => BodyR w w4 t pre x W e a' W') _ _
    have hxl : x.length ≤ 1048576 := Nat.le_trans (cutL_sub 43 t x hx) ht
    have hC := cutAt_any x 58 m W hxl (HM.out W hB)
    have HBX : Hid (Boxed W w.heap.size 27 (.slice va vn vc)) := hv
    have HRW : Hid (W.ownsRow w.heap.size 115 2 (.slice va vn vc) pre.length (gcells rs)) := hrow
    have HRS : Hid (pre.map rref = rs.map some) := hrs
    have HBW : Hid (Below w.heap.size w W) := hB
    have hBW : w.heap.size < W.heap.size := lt_of_block hv
    have hlen4 : pre.length ≤ 4000000 := Nat.le_of_lt hlen
    clear hv hrow hrs hB
    cases hct : cutO x 58 with
    | none =>
      rw [hct] at hC
      have hC' : Calls Tryz.prog 99 #[.string (str x), .string ⟨#[58]⟩] W fun e w' => e = .panicked pnC ∧ Below W.heap.size W w' := hC
      clear hC
      gi_wp2_with (first | (refine ⟨trivial, ?_⟩; gi_at_call 99; refine (CallsIn.inRound l (callsIn_wide.2 hC')).mono ?_; rintro e w5 ⟨rfl, hb5⟩))
      show BodyR w w4 t pre x W (.panic pnC) _ w5
      exact .inr ⟨rfl, rfl, keeps_of_below hb5, HBW.out.trans (hb5.mono HBW.out.size), mapO_none hx (rref_cut hct)⟩
    | some pp =>
      obtain ⟨pa, pb⟩ := pp
      rw [hct] at hC
      have hC' : Calls Tryz.prog 99 #[.string (str x), .string ⟨#[58]⟩] W fun e w' => e = .returned (.tuple #[.string (str pa), .string (str pb)]) ∧ Below W.heap.size W w' := hC
      have HCT : Hid (cutO x 58 = some (pa, pb)) := hct
      have hpl := cutO_len hct
      have HN1 : Hid (∀ u, Below W.heap.size W u → Calls Tryz.prog 88 #[.string (str pa)] u fun e w' => e = endR (rnum pa) (fun v => .int .i64 v) ∧ Below u.heap.size u w') := fun u hu => readNumber_any pa u (by omega) (HE.out u (HBW.out.trans (hu.mono HBW.out.size))).1 (HE.out u (HBW.out.trans (hu.mono HBW.out.size))).2
      have HN2 : Hid (∀ u, Below W.heap.size W u → Calls Tryz.prog 88 #[.string (str pb)] u fun e w' => e = endR (rnum pb) (fun v => .int .i64 v) ∧ Below u.heap.size u w') := fun u hu => readNumber_any pb u (by omega) (HE.out u (HBW.out.trans (hu.mono HBW.out.size))).1 (HE.out u (HBW.out.trans (hu.mono HBW.out.size))).2
      clear hC hct hpl
      gi_wp2_with (first | (refine ⟨trivial, ?_⟩; gi_at_call 99; refine (CallsIn.inRound l (callsIn_wide.2 hC')).mono ?_; clear hC'; rintro e w5 ⟨rfl, hb5⟩; have HB5 : Hid (Below W.heap.size W w5) := hb5; clear hb5))
      refine wpIn_region_any (by kernel_rfl) ?_
      change wpAnyIn _ _ _ _ _ _ _ _ _ (World.drew _)
      refine wpAnyIn_inv (fun L a v => ∃ (b0 b1 b2 b3 b4 b5 b6 b7 b8 : Bool) (x15 x16 x17 x18 x19 x20 x21 x22 : Value), L = #[b0, b1, b2, b3, b4, b5, b6, b7, b8] ∧ a = { tmps := #[.string (str t), undef, .slice none 0 0, .pointer (some ⟨w.heap.size, 0, none⟩), .string (str x), .string (str pa), .string (str pb), .string (str t), .func (.func 136) #[] #[.pointer (some ⟨w.heap.size + 1 + 1, 0, none⟩), .pointer (some ⟨w.heap.size + 1, 0, none⟩), .pointer (some ⟨w.heap.size + 1 + 1 + 1, 0, none⟩)], .string (str x), .tuple #[.string (str pa), .string (str pb)], .string (str x), .tuple #[.string (str pa), .string (str pb)], .string (str pa), .string (str pb), x15, x16, x17, x18, x19, x20, x21, x22, undef], defers := [] } ∧ Rr5 W w.heap.size pre.length (.slice va vn vc) (gcells rs) pa pb v b0 b1 b2 b3 b4 b5 b6 b7 b8 x15 x16 x17 x18 x19 x20 x21 x22) ?step ?done2 _ _ _ _ (by simp) ?start
      case start =>
        refine ⟨false, false, false, false, false, false, false, false, false, undef, undef, undef, undef, undef, undef, undef, undef, rfl, rfl, ?_⟩
        exact { bel := fun _ => HB5.out.drew, cb := fun _ => (HB5.out.cell (p := ⟨w.heap.size, 0, none⟩) hBW).trans HBX.out.cell, f0 := fun h => (by cases h), f1 := fun h => (by cases h), f2 := fun h => (by cases h), f3 := fun h => (by cases h), f4 := fun h => (by cases h), f5 := fun h => (by cases h), f6 := fun h => (by cases h), f7 := fun h => (by cases h), o4 := fun h => (by cases h), o5 := fun h => (by cases h), o6 := fun h => (by cases h), o7 := fun h => (by cases h), o8 := fun h => (by cases h), f8 := fun h => (by cases h) }
      case done2 =>
        rintro L a v ⟨b0, b1, b2, b3, b4, b5, b6, b7, b8, x15, x16, x17, x18, x19, x20, x21, x22, rfl, rfl, H⟩ hr
        have hall := ready_all (by kernel_rfl) hr
        obtain rfl : b8 = true := hall 8 (by decide)
        obtain ⟨g, cap, r1, r2, e1, e2, h1, h2, h3, h4, h5⟩ := H.f8 rfl
        show BodyR w w4 t pre x W .normal _ v
        refine .inl ⟨rfl, h3, h5 _ (fun j o e => ?_), ⟨some ⟨g, 0, none⟩, pre.length + 1, cap, rs ++ [(r1, r2)], ?_, h1, ?_⟩, HBW.out.trans h4⟩
        · rcases e with q | q
          · exact ⟨by omega, fun _ => q.2⟩
          · exact ⟨by have := q.1; omega, fun _ => q.2⟩
        · rw [List.map_append, List.map_append, HRS.out]
          simp [rref_of HCT.out, e1, e2]
        · rw [gcellsP_more, List.length_append]; exact h2
      case step =>
        rintro L a v i ⟨b0, b1, b2, b3, b4, b5, b6, b7, b8, x15, x16, x17, x18, x19, x20, x21, x22, rfl, rfl, H⟩ hi
        have hlt : i < 9 := ready_lt hi
        obtain rfl | rfl | rfl | rfl | rfl | rfl | rfl | rfl | rfl : i = 0 ∨ i = 1 ∨ i = 2 ∨ i = 3 ∨ i = 4 ∨ i = 5 ∨ i = 6 ∨ i = 7 ∨ i = 8 := by omega
        · obtain rfl : b0 = false := ready_new hi
          obtain rfl : b7 = false := Bool.eq_false_iff.2 (fun h => by have := (H.o7 h).2; cases this)
          obtain rfl : b8 = false := Bool.eq_false_iff.2 (fun h => by have := H.o8 h; cases this)
          have hc := H.cb rfl
          refine wpOpIn_run (o := _) rfl rfl (fun K hK => ?_)
          go_simp
          refine hK _ _ ?_
          exact ⟨_, _, _, _, _, _, _, _, _, _, _, _, _, _, _, _, _, rfl, rfl, { H with f0 := fun _ => rfl, o7 := fun h => by cases h }⟩
        · obtain rfl : b1 = false := ready_new hi
          refine wpOpIn_run (o := _) rfl rfl (fun K hK => ?_)
          go_simp
          refine hK _ _ ?_
          exact ⟨_, _, _, _, _, _, _, _, _, _, _, _, _, _, _, _, _, rfl, rfl, { H with f1 := fun _ => rfl }⟩
        · obtain rfl : b2 = false := ready_new hi
          obtain rfl : b1 = true := ready_dep (d := 1) hi (by kernel_rfl)
          obtain rfl : b4 = false := Bool.eq_false_iff.2 (fun h => by have := H.o4 h; cases this)
          obtain rfl : b5 = false := Bool.eq_false_iff.2 (fun h => by have := H.o5 h; cases this)
          obtain rfl : b6 = false := Bool.eq_false_iff.2 (fun h => by have := H.o6 h; cases this)
          obtain rfl : b7 = false := Bool.eq_false_iff.2 (fun h => by have := (H.o7 h).1; cases this)
          obtain rfl : b8 = false := Bool.eq_false_iff.2 (fun h => by have := H.o8 h; cases this)
          obtain rfl := H.f1 rfl
          have hW := HN1.out v (H.bel rfl)
          cases hr : rnum pa with
          | none =>
            rw [hr] at hW
            refine wpOpIn_run (o := _) rfl rfl (fun K hK => ?_)
            go_simp
            refine ⟨trivial, ?_⟩
            refine (CallsIn.inRound l (callsIn_wide.2 hW)).mono ?_
            rintro e v5 ⟨rfl, hb5⟩
            show BodyR w w4 t pre x W (.panic pnC) _ v5
            have hbv : Below W.heap.size W v5 := (H.bel rfl).trans (hb5.mono (H.bel rfl).size)
            exact .inr ⟨rfl, rfl, keeps_of_below hbv, HBW.out.trans (hbv.mono HBW.out.size), mapO_none hx (by rw [rref_of HCT.out, hr])⟩
          | some z =>
            rw [hr] at hW
            refine wpOpIn_run (o := _) rfl rfl (fun K hK => ?_)
            go_simp
            refine ⟨trivial, ?_⟩
            refine (CallsIn.inRound l (callsIn_wide.2 hW)).mono ?_
            rintro e v5 ⟨rfl, hb5⟩
            show K _ _
            refine hK _ _ ?_
            have HM := H.mem hBW hb5
            exact ⟨_, _, _, _, _, _, _, _, _, _, _, _, _, _, _, _, _, rfl, rfl, { HM with f2 := fun _ => ⟨z, hr, rfl⟩, o4 := fun h => by cases h }⟩
        · obtain rfl : b3 = false := ready_new hi
          refine wpOpIn_run (o := _) rfl rfl (fun K hK => ?_)
          go_simp
          refine hK _ _ ?_
          exact ⟨_, _, _, _, _, _, _, _, _, _, _, _, _, _, _, _, _, rfl, rfl, { H with f3 := fun _ => rfl }⟩
        · obtain rfl : b4 = false := ready_new hi
          obtain rfl : b3 = true := ready_dep (d := 3) hi (by kernel_rfl)
          obtain rfl : b2 = true := ready_dep (d := 2) hi (by kernel_rfl)
          obtain rfl : b5 = false := Bool.eq_false_iff.2 (fun h => by have := H.o5 h; cases this)
          obtain rfl : b6 = false := Bool.eq_false_iff.2 (fun h => by have := H.o6 h; cases this)
          obtain rfl : b7 = false := Bool.eq_false_iff.2 (fun h => by have := (H.o7 h).1; cases this)
          obtain rfl : b8 = false := Bool.eq_false_iff.2 (fun h => by have := H.o8 h; cases this)
          obtain rfl := H.f3 rfl
          have hW := HN2.out v (H.bel rfl)
          cases hr : rnum pb with
          | none =>
            rw [hr] at hW
            refine wpOpIn_run (o := _) rfl rfl (fun K hK => ?_)
            go_simp
            refine ⟨trivial, ?_⟩
            refine (CallsIn.inRound l (callsIn_wide.2 hW)).mono ?_
            rintro e v5 ⟨rfl, hb5⟩
            show BodyR w w4 t pre x W (.panic pnC) _ v5
            have hbv : Below W.heap.size W v5 := (H.bel rfl).trans (hb5.mono (H.bel rfl).size)
            exact .inr ⟨rfl, rfl, keeps_of_below hbv, HBW.out.trans (hbv.mono HBW.out.size), mapO_none hx (by rw [rref_of HCT.out, hr]; cases rnum pa <;> rfl)⟩
          | some z =>
            rw [hr] at hW
            refine wpOpIn_run (o := _) rfl rfl (fun K hK => ?_)
            go_simp
            refine ⟨trivial, ?_⟩
            refine (CallsIn.inRound l (callsIn_wide.2 hW)).mono ?_
            rintro e v5 ⟨rfl, hb5⟩
            show K _ _
            refine hK _ _ ?_
            have HM := H.mem hBW hb5
            exact ⟨_, _, _, _, _, _, _, _, _, _, _, _, _, _, _, _, _, rfl, rfl, { HM with f4 := fun _ => ⟨z, hr, rfl⟩, o4 := fun _ => rfl, o5 := fun h => by cases h }⟩
        · obtain rfl : b5 = false := ready_new hi
          obtain rfl : b2 = true := ready_dep (d := 2) hi (by kernel_rfl)
          obtain rfl : b4 = true := ready_dep (d := 4) hi (by kernel_rfl)
          obtain rfl : b6 = false := Bool.eq_false_iff.2 (fun h => by have := H.o6 h; cases this)
          obtain rfl : b7 = false := Bool.eq_false_iff.2 (fun h => by have := (H.o7 h).1; cases this)
          obtain rfl : b8 = false := Bool.eq_false_iff.2 (fun h => by have := H.o8 h; cases this)
          obtain ⟨r1, e1, q1⟩ := H.f2 rfl
          obtain ⟨r2, e2, q2⟩ := H.f4 rfl
          subst q1 q2
          refine wpOpIn_run (o := _) rfl rfl (fun K hK => ?_)
          go_simp
          refine hK _ _ ?_
          exact ⟨_, _, _, _, _, _, _, _, _, _, _, _, _, _, _, _, _, rfl, rfl, { H with f5 := fun _ => ⟨r1, r2, e1, e2, rfl⟩, o5 := fun _ => rfl, o6 := fun h => by cases h }⟩
        · obtain rfl : b6 = false := ready_new hi
          obtain rfl : b5 = true := ready_dep (d := 5) hi (by kernel_rfl)
          obtain rfl : b7 = false := Bool.eq_false_iff.2 (fun h => by have := (H.o7 h).1; cases this)
          obtain rfl : b8 = false := Bool.eq_false_iff.2 (fun h => by have := H.o8 h; cases this)
          obtain ⟨r1, r2, e1, e2, q⟩ := H.f5 rfl
          subst q
          refine wpOpIn_run (o := _) rfl rfl (fun K hK => ?_)
          go_simp
          refine hK _ _ ?_
          exact ⟨_, _, _, _, _, _, _, _, _, _, _, _, _, _, _, _, _, rfl, rfl, { H with bel := fun h => (by cases h), cb := fun _ => kept1 _ (H.cb rfl), f6 := fun _ _ => ⟨v, r1, r2, e1, e2, H.bel rfl, rfl, rfl⟩, f7 := fun h => (by cases h), f8 := fun h => (by cases h), o6 := fun _ => rfl, o7 := fun h => by cases h }⟩
        · obtain rfl : b7 = false := ready_new hi
          obtain rfl : b0 = true := ready_dep (d := 0) hi (by kernel_rfl)
          obtain rfl : b6 = true := ready_dep (d := 6) hi (by kernel_rfl)
          obtain rfl : b8 = false := Bool.eq_false_iff.2 (fun h => by have := H.o8 h; cases this)
          obtain ⟨u, r1, r2, e1, e2, hu, hv7, q⟩ := H.f6 rfl rfl
          obtain rfl := H.f0 rfl
          subst hv7 q
          obtain ⟨g, cap, w7, hrun, hc7, hF⟩ := refP_added r1 r2 HBX.out HRW.out hu HBW.out.size hlen4
          refine wpOpIn_run (o := _) rfl rfl (fun K hK => ?_)
          refine stepIn_append (v := .slice va vn vc) (u := .slice (some ⟨u.heap.size, 0, none⟩) 1 1) rfl (.tmp 15) (.tmp 21) 27 rfl rfl rfl hrun ?_
          refine hK _ _ ?_
          exact ⟨_, _, _, _, _, _, _, _, _, _, _, _, _, _, _, _, _, rfl, rfl, { H with bel := fun h => (by cases h), cb := fun h => (by cases h), f6 := fun _ h => (by cases h), f7 := fun _ _ => ⟨g, cap, r1, r2, e1, e2, rfl, hc7.1, hc7.2, hF⟩, f8 := fun h => (by cases h), o7 := fun _ => ⟨rfl, rfl⟩, o8 := fun h => by cases h }⟩
        · obtain rfl : b8 = false := ready_new hi
          obtain rfl : b7 = true := ready_dep (d := 7) hi (by kernel_rfl)
          obtain ⟨g, cap, r1, r2, e1, e2, q, hc, hf, hF⟩ := H.f7 rfl rfl
          subst q
          refine wpOpIn_run (o := _) rfl rfl (fun K hK => ?_)
          go_simp
          refine hK _ _ ?_
          exact ⟨_, _, _, _, _, _, _, _, _, _, _, _, _, _, _, _, _, rfl, rfl, { H with bel := fun h => (by have := (H.o7 rfl).1; rw [this] at h; cases h), cb := fun h => (by cases h), f6 := fun _ h => (by cases h), f7 := fun _ h => (by cases h), f8 := fun _ => ⟨g, cap, r1, r2, e1, e2, hF⟩, o8 := fun _ => rfl }⟩
  case done =>
    rintro D W hD ⟨⟨va, vn, vc, rs, hrs, hv, hrow⟩, hB⟩ hK
    refine .inl ⟨rfl, ?_⟩
    show wpX _ _ _ _
    refine wpX_of (n := 3) ?_
    have hc := hv.cell
    gi_wp2
    refine ⟨by simp, .inl ⟨_, _, rfl, run_takeDeferred hK, ?_⟩⟩
    refine ⟨_, results_tmp rfl _ _ _, hB.trans (belowK_b (w := w) (Nat.le_refl _) W D _ _ (by omega) hK rfl rfl), .inl ⟨va, vn, vc, rs, mapO_some hrs, rfl, ?_⟩⟩
    have := ownsRow_putObj hrow (.deferred none) hK rfl
    rw [some_len hrs] at this
    exact this
  case pan =>
    rintro D W hD ⟨hB, hz⟩ hK
    refine .inr ⟨_, rfl, ?_⟩
    show bodyPostM _ _ _ _ _ (.panic pnC) _ _
    refine ⟨by simp, .inl ⟨_, _, rfl, run_takeDeferred hK, ?_⟩⟩
    exact ⟨hB.trans (belowK_b (w := w) (Nat.le_refl _) W D _ _ (by omega) hK rfl rfl), .inr ⟨hz, rfl⟩⟩

end Go.Proofs.YtogidaebbelbfaaGreatDoor

namespace Go.Proofs.YtogidaebbelbfaaGreatDoor
open Go.RowKit Go.Shelf Go.Maps Go.WideMaps

theorem index_blankQ (l : List UInt8) : Lib.index (95 :: l) [95] = 0 := by
  unfold Lib.index
  simp [List.isPrefixOf]
theorem index_otherQ {b : UInt8} (h : b ≠ 95) (l : List UInt8) : Lib.index (b :: l) [95] = if Lib.index l [95] == -1 then -1 else Lib.index l [95] + 1 := by
  have hb : (95 == b) = false := by simpa using fun e => h (Eq.symm e)
  conv => lhs; unfold Lib.index
  simp [List.isPrefixOf, hb]
theorem repl_otherQ {b : UInt8} (h : b ≠ 95) (l new : List UInt8) (c : Nat) : Lib.replaceK [95] new c (b :: l) = b :: Lib.replaceK [95] new c l := by
  cases c with
  | zero => rfl
  | succ c =>
    rw [Lib.replaceK, Lib.replaceK, index_otherQ h]
    by_cases e : (Lib.index l [95] == -1) = true
    · rw [if_pos e, if_pos e, if_pos (by rfl)]
    · rw [if_neg e]
      have hs := Lib.index_ge l [95]
      have hne : Lib.index l [95] ≠ -1 := by simpa using e
      obtain ⟨i, hi⟩ : ∃ i : Nat, Lib.index l [95] = i := ⟨(Lib.index l [95]).toNat, by omega⟩
      rw [hi]
      have h1 : ((i : Int) == -1) = false := by simp
      have h2 : ((i : Int) + 1 == -1) = false := by simp; omega
      have h3 : ((i : Int) + 1).toNat = i + 1 := by omega
      simp [h1, h2, h3]
theorem count_otherQ {b : UInt8} (h : b ≠ 95) (l : List UInt8) (f : Nat) : Lib.countFrom [95] f (b :: l) = Lib.countFrom [95] f l := by
  cases f with
  | zero => rfl
  | succ f =>
    rw [Lib.countFrom, Lib.countFrom, index_otherQ h]
    by_cases e : (Lib.index l [95] == -1) = true
    · rw [if_pos e, if_pos e, if_pos (by rfl)]
    · rw [if_neg e]
      have hs := Lib.index_ge l [95]
      have hne : Lib.index l [95] ≠ -1 := by simpa using e
      obtain ⟨i, hi⟩ : ∃ i : Nat, Lib.index l [95] = i := ⟨(Lib.index l [95]).toNat, by omega⟩
      rw [hi]
      have h1 : ((i : Int) == -1) = false := by simp
      have h2 : ((i : Int) + 1 == -1) = false := by simp; omega
      have h3 : ((i : Int) + 1).toNat = i + 1 := by omega
      simp [h1, h2, h3]
theorem repl_countQ (l : List UInt8) : ∀ f, l.length < f → Lib.replaceK [95] [32] (Lib.countFrom [95] f l) l = l.map swq := by
  induction l with
  | nil =>
    intro f _
    have : Lib.countFrom [95] f [] = 0 := by
      cases f with
      | zero => rfl
      | succ f => rfl
    rw [this]; rfl
  | cons b t ih =>
    intro f hf
    by_cases hb : b = 95
    · subst hb
      cases f with
      | zero => simp at hf
      | succ f =>
        have e1 : Lib.countFrom [95] (f + 1) (95 :: t) = Lib.countFrom [95] f t + 1 := by
          rw [Lib.countFrom, index_blankQ]
          simp [Nat.add_comm]
        rw [e1, Lib.replaceK, index_blankQ]
        have := ih f (by simp at hf; omega)
        simp [this, swq]
    · rw [count_otherQ hb, repl_otherQ hb, ih f (by simp at hf; omega)]
      simp [swq, hb]
theorem repl_swapQ (l : List UInt8) : Lib.replaceAll l [95] [32] = l.map swq := by
  have h : Lib.replaceNum l [95] (-1) = Lib.count l [95] := by unfold Lib.replaceNum; rw [if_pos (.inl (by omega))]
  unfold Lib.replaceAll Lib.replace
  rw [if_neg (by decide), h]
  exact repl_countQ l _ (Nat.lt_succ_self _)

theorem replQ_any (t : List UInt8) (z : Int) (W : World) (ht : t.length ≤ 1048576) (hz : W.cell? ⟨1, 0, none⟩ = some (.int .i64 z)) :
    Calls Tryz.prog 101 #[.string (str t), .string ⟨#[95]⟩, .string ⟨#[32]⟩] W fun e w' => e = .returned (.string (str (t.map swq))) ∧ Below W.heap.size W w' := by
  have hs : (str t).size = t.length := rfl
  have hcb := Lib.countB_le ⟨#[95]⟩ (by decide) (str t).size (str t) (Nat.le_refl _)
  have hr := Tryz.strings_ReplaceAll (str t) ⟨#[95]⟩ ⟨#[32]⟩ z W (by rw [hs]; omega) hz (by decide) (by
    have e : (⟨#[32]⟩ : ByteArray).size = 1 := rfl
    rw [e]; omega)
  have e1 : (⟨(Lib.replaceAll (str t).data.toList [95] [32]).toArray⟩ : ByteArray) = str (t.map swq) := by
    have : (str t).data.toList = t := by simp [str]
    rw [this, repl_swapQ]; rfl
  refine hr.mono fun e w' ⟨he, hb⟩ => ⟨?_, hb⟩
  rw [he]
  exact congrArg (fun q => Ending.returned (.string q)) e1

/-- An out more: what the append leaves. -/
theorem out_added {W : World} {lo X j : Nat} {v u : Value} {f : Nat → Ou} {kv : Nat → Value} {o : Ou} (h : OOwn W lo W.heap.size v j f kv) (hX : W.heap[X]? = some (.cells #[.int .i64 o.v, u, .int .i64 o.x, .int .i64 o.y] 100 (0, 0))) (hu1 : u.oneCell' = true) (hrow : W.ownsRow lo 2 1 u o.l.length (ints o.l)) (hap : ∀ i, i < j → ∀ b, (kv i).ownBlock = some b → u.ownBlock ≠ some b) (hj : j ≤ 1100000) (hlo : lo ≤ W.heap.size) (hf : f j = o) :
    ∃ g cap w5, (Builtin.append_ #[28, 28] 28 #[v, .slice (some ⟨X, 0, none⟩) 1 1]).run Tryz.prog W = .ok (.slice (some ⟨g, 0, none⟩) (j + 1) cap) w5 ∧
      Hid (OOwn w5 lo w5.heap.size (.slice (some ⟨g, 0, none⟩) (j + 1) cap) (j + 1) f (fun i => if i = j then u else kv i) ∧ W.grownBy w5 v.ownBlock) := by
  obtain ⟨i0, hi, hz0, hz1, hz2⟩ := info_parts Tryz.infoOut
  obtain ⟨xs, hown, hcells⟩ := h.row
  obtain ⟨v', w5, hrun, hown', hgrow, hsome⟩ := run_append_own (P := Tryz.prog) W lo 28 28 100 i0 (.agg #[.int .i64 0, .slice none 0 0, .int .i64 0, .int .i64 0]) 4 48 Tryz.underlying28 hi hz0 hz1 hz2 rfl (by decide) v j xs hown ⟨X, 0, none⟩ 1 1 [.int .i64 o.v, u, .int .i64 o.x, .int .i64 o.y] rfl (World.news_of_block hX) (by
    intro z hz
    simp only [List.mem_cons, List.not_mem_nil, or_false] at hz
    rcases hz with rfl | rfl | rfl | rfl <;> first | rfl | exact hu1) (by unfold maxLen; omega) (by omega) hlo
  obtain ⟨g, cap, rfl⟩ := ownsRow_succ hown'
  have hxl := hown.1
  have kp : ∀ (z : Value) (d : Nat) (zs : List Value), W.ownsRow lo 2 1 z d zs → w5.ownsRow lo 2 1 z d zs := fun z d zs hz => hz.kept hgrow (by
    cases e : z.ownBlock with
    | none => exact .inl rfl
    | some b => exact .inr fun e2 => rows_apart (by decide) hown hz b e2.symm e)
  refine ⟨g, cap, w5, hrun, ⟨⟨_, hown', fun i hi => ?_⟩, fun b hb => (hown'.lt b hb).2, fun i hi => ?_, fun i k hik hk b hb => ?_⟩, hgrow⟩
  · by_cases e : i = j
    · subst e
      rw [if_pos rfl, hf]
      refine ⟨?_, ?_, ?_, ?_⟩ <;> (rw [List.getElem?_append_right (by omega), hxl]; simp)
    · obtain ⟨a0, a1, a2, a3⟩ := hcells i (by omega)
      rw [if_neg e]
      refine ⟨?_, ?_, ?_, ?_⟩
      · rw [List.getElem?_append_left (by omega)]; exact a0
      · rw [List.getElem?_append_left (by omega)]; exact a1
      · rw [List.getElem?_append_left (by omega)]; exact a2
      · rw [List.getElem?_append_left (by omega)]; exact a3
  · by_cases e : i = j
    · subst e
      rw [if_pos rfl, hf]
      exact ⟨kp _ _ _ hrow, fun b hb => ((kp _ _ _ hrow).lt b hb).2⟩
    · rw [if_neg e]
      have := kp _ _ _ (h.keys i (by omega)).1
      exact ⟨this, fun b hb => (this.lt b hb).2⟩
  · rw [if_neg (by omega)] at hb
    by_cases e : k = j
    · rw [if_pos e]; exact hap i (by omega) b hb
    · rw [if_neg e]; exact h.apart i k hik (by omega) b hb

/-- Four cells set. -/
abbrev four (R : Nat) (u : World) (v0 v1 v2 v3 : Value) : World := (((u.setCell ⟨R, 0, none⟩ v0).setCell ⟨R, 1, none⟩ v1).setCell ⟨R, 2, none⟩ v2).setCell ⟨R, 3, none⟩ v3
/-- What holds in the midst of the region. -/
structure Rr6 (W : World) (R X ln vc : Nat) (va : Option Addr) (ox oy : Int) (pa : List UInt8) (v : World) (b0 b1 b2 b3 b4 b5 : Bool) (x18 x19 x20 x21 x22 : Value) : Prop where
  bel : b5 = false → Below W.heap.size W v
  f0 : b0 = true → x18 = .string (str pa)
  f1 : b1 = true → ∃ z, rnum pa = some z ∧ x19 = .int .i64 z
  f2 : b2 = true → x20 = .pointer (some ⟨X, 1, none⟩)
  f3 : b3 = true → x21 = .agg #[.slice va ln vc, .int .i64 ox, .int .i64 oy]
  f4 : b4 = true → ∃ z, rnum pa = some z ∧ x22 = .agg #[.int .i64 z, .slice va ln vc, .int .i64 ox, .int .i64 oy]
  o4 : b4 = true → b1 = true
  o43 : b4 = true → b3 = true
  o5 : b5 = true → b4 = true
  f5 : b5 = true → ∃ z u, rnum pa = some z ∧ Below W.heap.size W u ∧ v = four R u (.int .i64 z) (.slice va ln vc) (.int .i64 ox) (.int .i64 oy)
/-- What readOut leaves. -/
def OutRo (w w' : World) (e : Ending) (p : List UInt8) : Prop := Below w.heap.size w w' ∧ ((∃ o va vc, rout p = some o ∧ e = .returned (.agg #[.int .i64 o.v, .slice va o.l.length vc, .int .i64 o.x, .int .i64 o.y]) ∧ w'.ownsRow w.heap.size 2 1 (.slice va o.l.length vc) o.l.length (ints o.l)) ∨ (rout p = none ∧ e = .panicked pnC))
theorem rout_cut {p : List UInt8} (h : cutO p 61 = none) : rout p = none := by
  unfold cutO at h
  unfold rout
  split at h
  · cases h
  · rename_i hc; rw [if_neg (fun e => hc e.1)]
theorem rout_bad {p pa pb : List UInt8} (h : cutO p 61 = some (pa, pb)) (h2 : (prR (pb.map swq)).1 ≠ 0) : rout p = none := by
  unfold cutO at h
  unfold rout
  split at h
  · simp only [Option.some.injEq, Prod.mk.injEq] at h
    rw [h.2, if_neg (fun e => h2 e.2)]
  · cases h
theorem rout_of {p pa pb : List UInt8} {l : List Int} {x y : Int} (h : cutO p 61 = some (pa, pb)) (h2 : prR (pb.map swq) = (0, l, x, y)) : rout p = (match rnum pa with
    | some v => some ⟨v, l, x, y⟩
    | none => none) := by
  unfold cutO at h
  unfold rout
  split at h
  · rename_i hc
    simp only [Option.some.injEq, Prod.mk.injEq] at h
    rw [h.2, if_pos ⟨hc, by rw [h2]⟩, h2, h.1]
    cases rnum pa <;> rfl
  · cases h

set_option maxRecDepth 20000 in
set_option maxHeartbeats 4000000 in
theorem readOut_any (p : List UInt8) (m : Int) (w : World) (hp : p.length ≤ 1048576) (hm : w.cell? ⟨1, 0, none⟩ = some (.int .i64 m)) (hE : Erv w) (hTb : Tb w) :
    Calls Tryz.prog 90 #[.string (str p)] w fun e w' => OutRo w w' e p := by
  have hlm := World.block_lt_of_cell? _ _ hm
  have HM : Hid (∀ u, Below w.heap.size w u → u.cell? ⟨1, 0, none⟩ = some (.int .i64 m)) := fun u h => (h.cell (p := ⟨1, 0, none⟩) hlm).trans hm
  have HE : Hid (∀ u, Below w.heap.size w u → Erv u ∧ Tb u) := fun u h => ⟨hE.below h, hTb.below h (Nat.le_refl _)⟩
  have HB1 : Hid (Below w.heap.size w (w.alloc (.cells #[.int .i64 0, .slice none 0 0, .int .i64 0, .int .i64 0] 100))) := below_box _
  have HR1 : Hid ((w.alloc (.cells #[.int .i64 0, .slice none 0 0, .int .i64 0, .int .i64 0] 100)).heap[w.heap.size]? = some (.cells #[.int .i64 0, .slice none 0 0, .int .i64 0, .int .i64 0] 100 (0, 0))) := heap_alloc_new _ _
  have hs1 : (w.alloc (.cells #[.int .i64 0, .slice none 0 0, .int .i64 0, .int .i64 0] 100)).heap.size = w.heap.size + 1 := by simp
  have hC := cutAt_any p 61 m (w.alloc (.cells #[.int .i64 0, .slice none 0 0, .int .i64 0, .int .i64 0] 100)) hp (HM.out _ HB1.out)
  clear hm hlm hE hTb
  cases hct : cutO p 61 with
  | none =>
    rw [hct] at hC
    have hC' : Calls Tryz.prog 99 #[.string (str p), .string ⟨#[61]⟩] (w.alloc (.cells #[.int .i64 0, .slice none 0 0, .int .i64 0, .int .i64 0] 100)) fun e w' => e = .panicked pnC ∧ Below (w.alloc (.cells #[.int .i64 0, .slice none 0 0, .int .i64 0, .int .i64 0] 100)).heap.size (w.alloc (.cells #[.int .i64 0, .slice none 0 0, .int .i64 0, .int .i64 0] 100)) w' := hC
    clear hC
    go_enter Tryz.func90, Tryz.ntmps90
    go_wp2_with (first | (go_at_call 99; (with_reducible refine hC'.mono ?_); clear hC'; rintro e w2 ⟨rfl, hb2⟩))
    exact ⟨rfl, HB1.out.trans (hb2.mono HB1.out.size), .inr ⟨rout_cut hct, rfl⟩⟩
  | some pp =>
    obtain ⟨pa, pb⟩ := pp
    rw [hct] at hC
    have hC' : Calls Tryz.prog 99 #[.string (str p), .string ⟨#[61]⟩] (w.alloc (.cells #[.int .i64 0, .slice none 0 0, .int .i64 0, .int .i64 0] 100)) fun e w' => e = .returned (.tuple #[.string (str pa), .string (str pb)]) ∧ Hid (Below (w.heap.size + 1) (w.alloc (.cells #[.int .i64 0, .slice none 0 0, .int .i64 0, .int .i64 0] 100)) w') := hC.mono fun e w' ⟨h1, h2⟩ => ⟨h1, by rw [← hs1]; exact h2⟩
    have hpl := cutO_len hct
    obtain ⟨pq, hpq⟩ : ∃ q, q = pb.map swq := ⟨_, rfl⟩
    have hql : pq.length ≤ 1048576 := by rw [hpq, List.length_map]; omega
    have HR : Hid (∀ u, Below w.heap.size w u → Calls Tryz.prog 101 #[.string (str pb), .string ⟨#[95]⟩, .string ⟨#[32]⟩] u fun e w' => e = .returned (.string (str pq)) ∧ Hid (Below u.heap.size u w')) := fun u hu => by rw [hpq]; exact replQ_any pb m u (by omega) (HM.out u hu)
    have HP : Hid (∀ u, Below w.heap.size w u → Calls Tryz.prog 100 #[.string (str pq)] u fun e w' => OutPr u w' e pq) := fun u hu => iParseRule_any pq m u hql (HM.out u hu) (HE.out u hu).1 (HE.out u hu).2
    obtain ⟨⟨cd, l, ox, oy⟩, hpr⟩ : ∃ r, prR pq = r := ⟨_, rfl⟩
    have hB1' : Below w.heap.size w (w.alloc (.cells #[.int .i64 0, .slice none 0 0, .int .i64 0, .int .i64 0] 100)) := HB1.out
    clear hC
    obtain ⟨ln, hln⟩ : ∃ n, n = l.length := ⟨_, rfl⟩
    have HPR : Hid (∀ u, Below w.heap.size w u → Calls Tryz.prog 100 #[.string (str pq)] u fun e w' => ∃ va vc, e = .returned (.agg #[.int .i64 cd, .slice va ln vc, .int .i64 ox, .int .i64 oy]) ∧ Hid (World.ownsRow w' u.heap.size 2 1 (.slice va ln vc) ln (ints l)) ∧ Hid (Below u.heap.size u w')) := fun u hu => (HP.out u hu).mono fun e w' ⟨hb, va, vc, e1, hO⟩ => by
      rw [hpr] at e1 hO
      rw [hln]
      exact ⟨va, vc, e1, hO, hb⟩
    clear HP
    by_cases hz : cd = 0
    · subst hz
      have HRO : Hid (rout p = (match rnum pa with
        | some v => some ⟨v, l, ox, oy⟩
        | none => none)) := rout_of hct (by rw [← hpq]; exact hpr)
      have HLN : Hid (ln = l.length) := hln
      have hpal : pa.length ≤ 1048576 := by omega
      clear hct hpl hpq hpr hln hql
      go_enter Tryz.func90, Tryz.ntmps90
      go_wp2_with (first
        | (go_at_call 99; (with_reducible refine hC'.mono ?_); clear hC'; rintro e w2 ⟨rfl, HB2⟩; have HW2 : Hid (Below w.heap.size w w2) := HB1.out.trans (HB2.out.mono (by omega)); have hR := HR.out w2 HW2.out)
        | (go_at_call 101; (with_reducible refine hR.mono ?_); clear hR; rintro e w3 ⟨rfl, HB3⟩; have HW3 : Hid (Below w.heap.size w w3) := HW2.out.trans (HB3.out.mono HW2.out.size); have hP := HPR.out w3 HW3.out)
        | (go_at_call 100; (with_reducible refine hP.mono ?_); clear hP; rintro e w4 ⟨va, vc, rfl, HO4, HB4⟩; have HW4 : Hid (Below w.heap.size w w4) := HW3.out.trans (HB4.out.mono HW3.out.size)))
      have hsz2 : w.heap.size + 1 ≤ w2.heap.size := by have := HB2.out.size; simp at this; omega
      have hsz3 := HB3.out.size
      have hsz4 := HB4.out.size
      obtain ⟨W5, hW5⟩ : ∃ V, V = (w4.alloc (.cells #[.int .i64 0, .slice va ln vc, .int .i64 ox, .int .i64 oy] 151)) := ⟨_, rfl⟩
      have hbx : Below w4.heap.size w4 W5 := by rw [hW5]; exact below_box _
      have HBW : Hid (Below w.heap.size w W5) := HW4.out.trans (hbx.mono HW4.out.size)
      have HX5 : Hid (W5.heap[w4.heap.size]? = some (.cells #[.int .i64 0, .slice va ln vc, .int .i64 ox, .int .i64 oy] 151 (0, 0)) ∧ w4.heap.size < W5.heap.size) := by
        rw [hW5]; exact ⟨heap_alloc_new _ _, by simp⟩
      have HR5 : Hid (W5.heap[w.heap.size]? = some (.cells #[.int .i64 0, .slice none 0 0, .int .i64 0, .int .i64 0] 100 (0, 0)) ∧ w.heap.size < W5.heap.size) := by
        have h2 := (HB2.out.block w.heap.size (by omega)).trans HR1.out
        have h3 := (HB3.out.block w.heap.size (by omega)).trans h2
        have h4 := (HB4.out.block w.heap.size (by omega)).trans h3
        exact ⟨(hbx.block w.heap.size (by omega)).trans h4, by have := hbx.size; omega⟩
      have HO5 : Hid (W5.ownsRow w3.heap.size 2 1 (.slice va ln vc) ln (ints l)) := row_on HO4.out hbx
      have HN : Hid (∀ u, Below W5.heap.size W5 u → Calls Tryz.prog 88 #[.string (str pa)] u fun e w' => e = endR (rnum pa) (fun v => .int .i64 v) ∧ Below u.heap.size u w') := fun u hu => readNumber_any pa u hpal (HE.out u (HBW.out.trans (hu.mono HBW.out.size))).1 (HE.out u (HBW.out.trans (hu.mono HBW.out.size))).2
      rw [← hW5]
      clear hW5 hbx
      refine wp_region_any (by kernel_rfl) ?_
      change wpAny _ _ _ _ _ _ _ (World.drew _)
      refine wpAny_inv (fun L a v => ∃ (b0 b1 b2 b3 b4 b5 : Bool) (x18 x19 x20 x21 x22 : Value), L = #[b0, b1, b2, b3, b4, b5] ∧ a = { tmps := #[.string (str p), undef, .pointer (some ⟨w.heap.size, 0, none⟩), .string (str pa), .string (str pb), .pointer (some ⟨w4.heap.size, 0, none⟩), .tuple #[.string (str pa), .string (str pb)], .string (str p), .tuple #[.string (str pa), .string (str pb)], .string (str pa), .string (str pb), .string (str pb), .string (str pq), .agg #[.int .i64 0, .slice va ln vc, .int .i64 ox, .int .i64 oy], .pointer (some ⟨w4.heap.size, 0, none⟩), .int .i64 0, .bool false, undef, x18, x19, x20, x21, x22], defers := [] } ∧ Rr6 W5 w.heap.size w4.heap.size ln vc va ox oy pa v b0 b1 b2 b3 b4 b5 x18 x19 x20 x21 x22) ?step ?done _ _ _ _ (by simp) ?start
      case start =>
        refine ⟨false, false, false, false, false, false, undef, undef, undef, undef, undef, rfl, rfl, ?_⟩
        exact { bel := fun _ => (Below.refl _ _).drew, f0 := fun h => (by cases h), f1 := fun h => (by cases h), f2 := fun h => (by cases h), f3 := fun h => (by cases h), f4 := fun h => (by cases h), o4 := fun h => (by cases h), o43 := fun h => (by cases h), o5 := fun h => (by cases h), f5 := fun h => (by cases h) }
      case done =>
        rintro L a v ⟨b0, b1, b2, b3, b4, b5, x18, x19, x20, x21, x22, rfl, rfl, H⟩ hr
        have hall := ready_all (by kernel_rfl) hr
        obtain rfl : b5 = true := hall 5 (by decide)
        obtain ⟨z, u, e1, hu, hv⟩ := H.f5 rfl
        subst hv
        have hRu := (hu.block w.heap.size HR5.out.2).trans HR5.out.1
        obtain ⟨j0, j1, j2, j3⟩ := four_set hRu (.int .i64 z) (.slice va ln vc) (.int .i64 ox) (.int .i64 oy)
        have HF : Hid (OutRo w (four w.heap.size u (.int .i64 z) (.slice va ln vc) (.int .i64 ox) (.int .i64 oy)) (.returned (.agg #[.int .i64 z, .slice va ln vc, .int .i64 ox, .int .i64 oy])) p) := by
          refine ⟨four_belowR (HBW.out.trans (hu.mono HBW.out.size)) (Nat.le_refl _) _ _ _ _, .inl ⟨⟨z, l, ox, oy⟩, va, vc, ?_, ?_, ?_⟩⟩
          · rw [HRO.out, e1]
          · simp only [← HLN.out]
          · simp only [← HLN.out]
            exact four_rowR (row_on HO5.out hu) (by omega) (by omega) _ _ _ _
        go_wp2
        exact bodyPost_ret (v := .agg #[.int .i64 z, .slice va ln vc, .int .i64 ox, .int .i64 oy]) (by simp [results, Tryz.results90, go_sem, j0, j1, j2, j3]) rfl HF.out
      case step =>
        rintro L a v i ⟨b0, b1, b2, b3, b4, b5, x18, x19, x20, x21, x22, rfl, rfl, H⟩ hi
        have hlt : i < 6 := ready_lt hi
        obtain rfl | rfl | rfl | rfl | rfl | rfl : i = 0 ∨ i = 1 ∨ i = 2 ∨ i = 3 ∨ i = 4 ∨ i = 5 := by omega
        · obtain rfl : b0 = false := ready_new hi
          refine wpOp_run (o := _) rfl (fun K hK => ?_)
          go_simp
          refine hK _ _ ?_
          exact ⟨_, _, _, _, _, _, _, _, _, _, _, rfl, rfl, { H with f0 := fun _ => rfl }⟩
        · obtain rfl : b1 = false := ready_new hi
          obtain rfl : b0 = true := ready_dep (d := 0) hi (by kernel_rfl)
          obtain rfl : b4 = false := Bool.eq_false_iff.2 (fun h => by have := H.o4 h; cases this)
          obtain rfl : b5 = false := Bool.eq_false_iff.2 (fun h => by have := H.o5 h; cases this)
          obtain rfl := H.f0 rfl
          have hW := HN.out v (H.bel rfl)
          cases hr : rnum pa with
          | none =>
            rw [hr] at hW
            refine wpOp_run (o := _) rfl (fun K hK => ?_)
            go_simp
            go_at_call 88
            refine hW.mono ?_
            rintro e v5 ⟨rfl, hb5⟩
            refine ⟨rfl, HBW.out.trans (((H.bel rfl).trans (hb5.mono (H.bel rfl).size)).mono HBW.out.size), .inr ⟨HRO.out.trans (by rw [hr]), rfl⟩⟩
          | some z =>
            rw [hr] at hW
            refine wpOp_run (o := _) rfl (fun K hK => ?_)
            go_simp
            go_at_call 88
            refine hW.mono ?_
            rintro e v5 ⟨rfl, hb5⟩
            show K _ _
            refine hK _ _ ?_
            exact ⟨_, _, _, _, _, _, _, _, _, _, _, rfl, rfl, { H with bel := fun _ => (H.bel rfl).trans (hb5.mono (H.bel rfl).size), f1 := fun _ => ⟨z, hr, rfl⟩, o4 := fun h => (by cases h), f5 := fun h => (by cases h) }⟩
        · obtain rfl : b2 = false := ready_new hi
          refine wpOp_run (o := _) rfl (fun K hK => ?_)
          go_simp
          refine hK _ _ ?_
          exact ⟨_, _, _, _, _, _, _, _, _, _, _, rfl, rfl, { H with f2 := fun _ => rfl }⟩
        · obtain rfl : b3 = false := ready_new hi
          obtain rfl : b2 = true := ready_dep (d := 2) hi (by kernel_rfl)
          obtain rfl : b4 = false := Bool.eq_false_iff.2 (fun h => by have := (H.o43 h); cases this)
          obtain rfl : b5 = false := Bool.eq_false_iff.2 (fun h => by have := H.o5 h; cases this)
          obtain rfl := H.f2 rfl
          obtain ⟨y0, y1, y2, y3, _⟩ := cells4 (((H.bel rfl).block w4.heap.size HX5.out.2).trans HX5.out.1)
          refine wpOp_run (o := _) rfl (fun K hK => ?_)
          go_simp
          refine hK _ _ ?_
          exact ⟨_, _, _, _, _, _, _, _, _, _, _, rfl, rfl, { H with f3 := fun _ => rfl, o43 := fun h => (by cases h) }⟩
        · obtain rfl : b4 = false := ready_new hi
          obtain rfl : b1 = true := ready_dep (d := 1) hi (by kernel_rfl)
          obtain rfl : b3 = true := ready_dep (d := 3) hi (by kernel_rfl)
          obtain rfl : b5 = false := Bool.eq_false_iff.2 (fun h => by have := H.o5 h; cases this)
          obtain ⟨z, e1, q1⟩ := H.f1 rfl
          obtain rfl := H.f3 rfl
          subst q1
          refine wpOp_run (o := _) rfl (fun K hK => ?_)
          go_simp
          refine hK _ _ ?_
          exact ⟨_, _, _, _, _, _, _, _, _, _, _, rfl, rfl, { H with f4 := fun _ => ⟨z, e1, rfl⟩, o4 := fun _ => rfl, o43 := fun _ => rfl, o5 := fun h => by cases h }⟩
        · obtain rfl : b5 = false := ready_new hi
          obtain rfl : b4 = true := ready_dep (d := 4) hi (by kernel_rfl)
          obtain ⟨z, e1, q1⟩ := H.f4 rfl
          subst q1
          have hR := ((H.bel rfl).block w.heap.size HR5.out.2).trans HR5.out.1
          obtain ⟨y0, y1, y2, y3, y4, y5, y6, y7⟩ := cells4 hR
          refine wpOp_run (o := _) rfl (fun K hK => ?_)
          go_simp
          refine hK _ _ ?_
          exact ⟨_, _, _, _, _, _, _, _, _, _, _, rfl, rfl, { H with bel := fun h => (by cases h), o5 := fun _ => rfl, f5 := fun _ => ⟨z, v, e1, H.bel rfl, rfl⟩ }⟩
    · have HRO : Hid (rout p = none) := rout_bad hct (by rw [← hpq, hpr]; exact hz)
      clear hct hpl hpq hpr hln hql
      have hne : (cd == 0) = false := by simpa using hz
      go_enter Tryz.func90, Tryz.ntmps90
      go_wp2_with (first
        | (go_at_call 99; (with_reducible refine hC'.mono ?_); clear hC'; rintro e w2 ⟨rfl, HB2⟩; have HW2 : Hid (Below w.heap.size w w2) := HB1.out.trans (HB2.out.mono (by omega)); have hR := HR.out w2 HW2.out)
        | (go_at_call 101; (with_reducible refine hR.mono ?_); clear hR; rintro e w3 ⟨rfl, HB3⟩; have HW3 : Hid (Below w.heap.size w w3) := HW2.out.trans (HB3.out.mono HW2.out.size); have hP := HPR.out w3 HW3.out)
        | (go_at_call 100; (with_reducible refine hP.mono ?_); clear hP; rintro e w4 ⟨va, vc, rfl, HO4, HB4⟩; have HW4 : Hid (Below w.heap.size w w4) := HW3.out.trans (HB4.out.mono HW3.out.size)))
      exact ⟨rfl, HW4.out.trans ((below_box _).mono HW4.out.size), .inr ⟨HRO.out, rfl⟩⟩

end Go.Proofs.YtogidaebbelbfaaGreatDoor

namespace Go.Proofs.YtogidaebbelbfaaGreatDoor
open Go.RowKit Go.Maps Go.WideMaps

theorem TwG.chg {w w' : World} {base p lo hi : Nat} {l : List (Int × Int)} (h : TwG w base p l) (hc : Chg w w' lo hi) (hh : hi ≤ base) : TwG w' base p l := by
  obtain ⟨iv, B, hp, hbp, hbB, ho, ht⟩ := h
  refine ⟨iv, B, hc.keep hp (.inr (by omega)), hbp, hbB, hc.row ho (fun k hk => .inr (by have := (ho.lt k hk).1; omega)), ?_⟩
  obtain ⟨D, hD, hat⟩ := ht
  obtain ⟨es, ck, hes, rest⟩ := hD
  exact ⟨D, ⟨es, ck, (hc.block B (lt_of_block hes) (.inr (by omega))).trans hes, rest⟩, hat⟩

end Go.Proofs.YtogidaebbelbfaaGreatDoor

namespace Go.Proofs.YtogidaebbelbfaaGreatDoor
open Go.RowKit Go.Maps Go.WideMaps

theorem k4 {W : World} {b c : Nat} {v0 v1 v2 v3 : Value} (h : c ≠ b) : ((((W.setCell ⟨b, 0, none⟩ v0).setCell ⟨b, 1, none⟩ v1).setCell ⟨b, 2, none⟩ v2).setCell ⟨b, 3, none⟩ v3).heap[c]? = W.heap[c]? :=
  (Below.heap_setCell _ ⟨b, 3, none⟩ _ c h).trans ((Below.heap_setCell _ ⟨b, 2, none⟩ _ c h).trans ((Below.heap_setCell _ ⟨b, 1, none⟩ _ c h).trans (Below.heap_setCell _ ⟨b, 0, none⟩ _ c h)))

end Go.Proofs.YtogidaebbelbfaaGreatDoor

namespace Go.Proofs.YtogidaebbelbfaaGreatDoor
open Go.RowKit Go.Maps Go.WideMaps


/-- The words that are drawn. -/
def words : List ByteArray := [⟨#[97]⟩, ⟨#[98]⟩, ⟨#[99, 99]⟩, ⟨#[120, 32, 121]⟩, ⟨#[112, 97, 121, 32, 49]⟩]

end Go.Proofs.YtogidaebbelbfaaGreatDoor

namespace Go.Proofs.YtogidaebbelbfaaGreatDoor
open Go.RowKit Go.Maps Go.WideMaps

structure TOwn (w : World) (lo mid hi n m g0 c0 g1 c1 : Nat) (rs : List (Int × Int)) (os : List Ou) (kv : Nat → Value) : Prop where
  r : w.ownsRow lo 115 2 (.slice (some ⟨g0, 0, none⟩) n c0) n (gcells rs)
  rt : g0 < mid
  o : OOwn w mid hi (.slice (some ⟨g1, 0, none⟩) m c1) m (fun j => os.getD j O0) kv
  lm : lo ≤ mid
  mh : mid ≤ hi
section
variable {w w' : World} {lo mid hi n m g0 c0 g1 c1 : Nat} {rs : List (Int × Int)} {os : List Ou} {kv : Nat → Value}
theorem TOwn.chg (h : TOwn w lo mid hi n m g0 c0 g1 c1 rs os kv) {lo' hi' : Nat} (hc : Chg w w' lo' hi') (hd : hi ≤ lo' ∨ hi' ≤ lo) : TOwn w' lo mid hi n m g0 c0 g1 c1 rs os kv := by
  have h1 := h.lm
  have h2 := h.mh
  have h3 := h.rt
  refine ⟨hc.row h.r fun k hk => ?_, h.rt, h.o.chg hc (by omega), h1, h2⟩
  have a := (h.r.lt k hk).1
  have e : g0 = k := by simpa [Value.ownBlock] using hk
  omega
theorem TOwn.below (h : TOwn w lo mid hi n m g0 c0 g1 c1 rs os kv) (hb : Below w.heap.size w w') : TOwn w' lo mid hi n m g0 c0 g1 c1 rs os kv := h.chg (Chg.of_below hb hi hi) (.inl (Nat.le_refl _))
theorem TOwn.at (h : TOwn w lo mid hi n m g0 c0 g1 c1 rs os kv) (hn : rs.length = n) (hm : os.length = m) (hl : ∀ j, j < m → (os.getD j O0).l.length ≤ 1048576) : TxAt w (some ⟨g0, 0, none⟩) n (some ⟨g1, 0, none⟩) m rs os := ⟨GAt.owned h.r hn, h.o.at hm hl⟩
theorem TOwn.caps (h : TOwn w lo mid hi n m g0 c0 g1 c1 rs os kv) : n ≤ c0 ∧ c0 ≤ maxLen := by
  rcases id h.r.2 with ⟨e, _⟩ | ⟨g', c', cur, e, _, _, k1, k2, _⟩
  · cases e
  · simp at e
    obtain ⟨rfl, rfl⟩ := e
    exact ⟨k1, k2⟩
theorem TOwn.rlt (h : TOwn w lo mid hi n m g0 c0 g1 c1 rs os kv) : g0 < w.heap.size := (h.r.lt g0 rfl).2
theorem Chg.wide {lo' hi' : Nat} (h : Chg w w' lo hi) (h1 : lo' ≤ lo) (h2 : hi ≤ hi') : Chg w w' lo' hi' := ⟨h.os, h.tape, h.output, h.size, fun b hb hd => h.block b hb (by omega)⟩
end

end Go.Proofs.YtogidaebbelbfaaGreatDoor
