/- Coins of the call's own: their row and their keys' rows; marks are written into them, and read back. The specification's faults of refs and outs. The specification's fault of a transaction. The specification's fault of coins. -/
import Derived.Test.YtdfijlcjmllplaaJn1
import Derived.OneCell
namespace Go.Proofs.Ytdfijlcjmllplaa
open Go.RowKit Go.Maps Go.WideMaps

theorem Chg.refl (w : World) (lo hi : Nat) : Chg w w lo hi := ⟨rfl, rfl, rfl, Nat.le_refl _, fun _ _ _ => rfl⟩
theorem Chg.setCell {w W : World} {lo hi g t : Nat} (h : Chg w W lo hi) (hg : lo ≤ g ∧ g < hi) (u : Value) : Chg w (W.setCell ⟨g, t, none⟩ u) lo hi :=
  ⟨h.os, h.tape, h.output, by simpa using h.size, fun b hb ho => (Below.heap_setCell _ ⟨g, t, none⟩ u b (show b ≠ g by omega)).trans (h.block b hb ho)⟩

/-- The eight cells of a coin in a row. -/
def CellsC (xs : List Value) (j : Nat) (c : Co) (u : Value) : Prop :=
  xs[j * 8]? = some (.int .i64 c.p) ∧ xs[j * 8 + 1]? = some (.int .i64 c.q) ∧ xs[j * 8 + 2]? = some (.int .i64 c.v) ∧ xs[j * 8 + 3]? = some (u) ∧ xs[j * 8 + 4]? = some (.int .i64 c.x) ∧ xs[j * 8 + 5]? = some (.int .i64 c.y) ∧ xs[j * 8 + 6]? = some (.int .i64 c.h) ∧ xs[j * 8 + 7]? = some (.bool c.m)

/-- Coins whose row and whose keys' rows lie in blocks from lo on and below hi, no two in one. -/
structure COwn (w : World) (lo hi : Nat) (v : Value) (n : Nat) (f : Nat → Co) (kv : Nat → Value) : Prop where
  row : ∃ xs, w.ownsRow lo 41 8 v n xs ∧ ∀ j, j < n → CellsC xs j (f j) (kv j)
  top : ∀ b, v.ownBlock = some b → b < hi
  keys : ∀ j, j < n → w.ownsRow lo 2 1 (kv j) (f j).l.length (ints (f j).l) ∧ ∀ b, (kv j).ownBlock = some b → b < hi
  apart : ∀ i j, i < j → j < n → ∀ b, (kv i).ownBlock = some b → (kv j).ownBlock ≠ some b

theorem COwn.below {w w' : World} {lo hi n : Nat} {v : Value} {f : Nat → Co} {kv : Nat → Value} (h : COwn w lo hi v n f kv) (hb : Below w.heap.size w w') : COwn w' lo hi v n f kv := by
  obtain ⟨xs, h1, h2⟩ := h.row
  exact ⟨⟨xs, h1.kept (grown_of_below hb) (by cases Value.ownBlock v <;> simp), h2⟩, h.top, fun j hj => ⟨(h.keys j hj).1.kept (grown_of_below hb) (by cases Value.ownBlock (kv j) <;> simp), (h.keys j hj).2⟩, h.apart⟩
theorem COwn.chg {w w' : World} {lo hi n lo' hi' : Nat} {v : Value} {f : Nat → Co} {kv : Nat → Value} (h : COwn w lo hi v n f kv) (hc : Chg w w' lo' hi') (hd : hi ≤ lo' ∨ hi' ≤ lo) : COwn w' lo hi v n f kv := by
  obtain ⟨xs, h1, h2⟩ := h.row
  refine ⟨⟨xs, hc.row h1 fun k hk => ?_, h2⟩, h.top, fun j hj => ⟨hc.row (h.keys j hj).1 fun k hk => ?_, (h.keys j hj).2⟩, h.apart⟩
  · have a := h.top k hk
    have b := (h1.lt k hk).1
    omega
  · have a := (h.keys j hj).2 k hk
    have b := ((h.keys j hj).1.lt k hk).1
    omega
theorem COwn.mono {w : World} {lo hi hi' n : Nat} {v : Value} {f : Nat → Co} {kv : Nat → Value} (h : COwn w lo hi v n f kv) (hh : hi ≤ hi') : COwn w lo hi' v n f kv :=
  ⟨h.row, fun b hb => Nat.lt_of_lt_of_le (h.top b hb) hh, fun j hj => ⟨(h.keys j hj).1, fun b hb => Nat.lt_of_lt_of_le ((h.keys j hj).2 b hb) hh⟩, h.apart⟩

/-- The row's own block is no block of keys. -/
theorem COwn.far {w : World} {lo hi n g cap : Nat} {f : Nat → Co} {kv : Nat → Value} (h : COwn w lo hi (.slice (some ⟨g, 0, none⟩) n cap) n f kv) {j : Nat} (hj : j < n) {b : Nat} (hb : (kv j).ownBlock = some b) : g ≠ b := by
  obtain ⟨xs, h1, _⟩ := h.row
  exact fun e => rows_apart (by decide) h1 (h.keys j hj).1 g rfl (by rw [hb, e])

theorem COwn.cells {w : World} {lo hi n g cap : Nat} {f : Nat → Co} {kv : Nat → Value} (h : COwn w lo hi (.slice (some ⟨g, 0, none⟩) n cap) n f kv) {j : Nat} (hj : j < n) {c : Co} (hc : f j = c) {u : Value} (hu : kv j = u) :
    (w.cell? ⟨g, j * 8, none⟩ = some (.int .i64 c.p) ∧ w.cell? ⟨g, j * 8 + 1, none⟩ = some (.int .i64 c.q) ∧ w.cell? ⟨g, j * 8 + 2, none⟩ = some (.int .i64 c.v) ∧ w.cell? ⟨g, j * 8 + 3, none⟩ = some (u) ∧ w.cell? ⟨g, j * 8 + 4, none⟩ = some (.int .i64 c.x) ∧ w.cell? ⟨g, j * 8 + 5, none⟩ = some (.int .i64 c.y) ∧ w.cell? ⟨g, j * 8 + 6, none⟩ = some (.int .i64 c.h) ∧ w.cell? ⟨g, j * 8 + 7, none⟩ = some (.bool c.m)) ∧ (w.frozen? ⟨g, j * 8, none⟩ = false ∧ w.frozen? ⟨g, j * 8 + 1, none⟩ = false ∧ w.frozen? ⟨g, j * 8 + 2, none⟩ = false ∧ w.frozen? ⟨g, j * 8 + 3, none⟩ = false ∧ w.frozen? ⟨g, j * 8 + 4, none⟩ = false ∧ w.frozen? ⟨g, j * 8 + 5, none⟩ = false ∧ w.frozen? ⟨g, j * 8 + 6, none⟩ = false ∧ w.frozen? ⟨g, j * 8 + 7, none⟩ = false) := by
  obtain ⟨xs, h1, h2⟩ := h.row
  have h3 := h2 j hj
  rw [hc, hu] at h3
  obtain ⟨a0, a1, a2, a3, a4, a5, a6, a7⟩ := h3
  have hl := h1.1
  exact ⟨⟨(h1.cellAt (j * 8) (by omega)).trans a0, (h1.cellAt (j * 8 + 1) (by omega)).trans a1, (h1.cellAt (j * 8 + 2) (by omega)).trans a2, (h1.cellAt (j * 8 + 3) (by omega)).trans a3, (h1.cellAt (j * 8 + 4) (by omega)).trans a4, (h1.cellAt (j * 8 + 5) (by omega)).trans a5, (h1.cellAt (j * 8 + 6) (by omega)).trans a6, (h1.cellAt (j * 8 + 7) (by omega)).trans a7⟩, h1.frozenAt _, h1.frozenAt _, h1.frozenAt _, h1.frozenAt _, h1.frozenAt _, h1.frozenAt _, h1.frozenAt _, h1.frozenAt _⟩

end Go.Proofs.Ytdfijlcjmllplaa

namespace Go.Proofs.Ytdfijlcjmllplaa
open Go.RowKit Go.Maps Go.WideMaps

set_option maxRecDepth 20000 in
set_option maxHeartbeats 2000000 in
theorem l2FaultAt_any (P q n cap : Nat) (a : Option Addr) (l : List Int) (x y : Int) (w : World) (hl : n ≤ 1048576) (hI : IAt w a n l) (hPl : P < w.heap.size) (p0 : w.cell? ⟨P, q, none⟩ = some (.slice a n cap)) (p1 : w.cell? ⟨P, q + 1, none⟩ = some (.int .i64 x)) (p2 : w.cell? ⟨P, q + 2, none⟩ = some (.int .i64 y)) :
    Calls Try.prog 50 #[.pointer (some ⟨P, q, none⟩)] w fun e w' => e = .returned (.int .i64 (ruleR l x y)) ∧ Below w.heap.size w w' := by
  have HI : Hid (IAt w a n l) := hI
  have HN : Hid (l.length = n) := hI.1
  obtain ⟨b1, hb1⟩ : ∃ b, b = inB n 1 3 := ⟨_, rfl⟩
  obtain ⟨kb, hkb⟩ : ∃ b, b = inB x 1 n := ⟨_, rfl⟩
  obtain ⟨kc, hkc⟩ : ∃ b, b = inB y 0 999 := ⟨_, rfl⟩
  have hW1 : ∀ v, Calls Try.prog 26 #[.int .i64 n, .int .i64 1, .int .i64 3] v fun e w' => e = .returned (.bool b1) ∧ w' = v := fun v => by rw [hb1]; exact l1In_any _ _ _ v
  have hW2 : ∀ v, Calls Try.prog 26 #[.int .i64 x, .int .i64 1, .int .i64 n] v fun e w' => e = .returned (.bool kb) ∧ w' = v := fun v => by rw [hkb]; exact l1In_any _ _ _ v
  have hW3 : ∀ v, Calls Try.prog 27 #[.int .i64 y] v fun e w' => e = .returned (.bool kc) ∧ w' = v := fun v => by rw [hkc]; exact l2Height_any _ v
  have HB1 : Hid (b1 = inB n 1 3) := hb1
  have HKB : Hid (kb = inB x 1 n) := hkb
  have HKC : Hid (kc = inB y 0 999) := hkc
  obtain ⟨r, hr⟩ : ∃ r, r = ruleR l x y := ⟨_, rfl⟩
  rw [← hr]
  have HR : Hid (r = ruleR l x y) := hr
  clear hI hb1 hkb hkc hr
  cases b1
  · obtain rfl : r = 2 := by rw [HR.out]; exact ruleR_many HN.out HB1.out.symm
    go_enter Try.func50, Try.ntmps50
    go_wp2_with (go_at_call 26; refine (hW1 _).mono ?_; rintro e w' ⟨rfl, hw⟩; have hw2 := hw.symm; subst hw2)
    go_ret
    exact ⟨rfl, Below.refl _ _⟩
  · go_enter Try.func50, Try.ntmps50
    go_wp2_with (go_at_call 26; refine (hW1 _).mono ?_; rintro e w' ⟨rfl, hw⟩; have hw2 := hw.symm; subst hw2)
    go_loop [4] (fun i => ∃ k : Nat, k ≤ n ∧ i = .int .i64 k ∧ Hid (allK (l.take k) = true)) (fun i => n - (intOf i).toNat)
    case atStart => exact ⟨0, Nat.zero_le _, rfl, by show _ = _; simp [allK]⟩
    case round =>
      obtain ⟨k, hk, rfl, HT⟩ := hrel
      by_cases hlt : k < n
      · rcases HI.out.2 with h0 | ⟨b0, o0, e0, l0, d0⟩
        · omega
        subst e0
        obtain ⟨s, hs⟩ : ∃ s, s = l.getD k 0 := ⟨_, rfl⟩
        have x0 := d0 k hlt
        rw [← hs] at x0
        have HS : Hid (s = l.getD k 0) := hs
        obtain ⟨ks, hks⟩ : ∃ b, b = inB s 1 999 := ⟨_, rfl⟩
        have hkey : ∀ v, Calls Try.prog 68 #[.int .i64 s] v fun e w' => e = .returned (.bool ks) ∧ w' = v := fun v => by rw [hks]; exact l1Key_any s v
        have HKS : Hid (ks = inB s 1 999) := hks
        clear hs d0 hks
        have hki : (k : Int) < (n : Int) := by omega
        cases ks
        · obtain rfl : r = 3 := by
            rw [HR.out]
            refine ruleR_range HN.out HB1.out.symm (.inl (allK_pre (pre := l.take (k + 1)) (List.take_prefix _ _) ?_))
            rw [take_next HN.out hlt HS.out]; exact allK_bad HKS.out.symm
          go_wp2_with (go_at_call 68; refine (hkey _).mono ?_; rintro e w' ⟨rfl, hw⟩; have hw2 := hw.symm; subst hw2)
          go_ret
          exact ⟨rfl, Below.refl _ _⟩
        · go_wp2_with (go_at_call 68; refine (hkey _).mono ?_; rintro e w' ⟨rfl, hw⟩; have hw2 := hw.symm; subst hw2)
          go_round
          case rel => exact ⟨k + 1, by omega, by go_num, by show _ = _; rw [take_next HN.out hlt HS.out]; exact allK_snoc HT.out HKS.out.symm⟩
          case measure => simp [intOf]; omega
      · have HALL : Hid (allK l = true) := by have := HT.out; rw [take_all HN.out hlt] at this; exact this
        clear HT
        cases kb
        · obtain rfl : r = 3 := by rw [HR.out]; exact ruleR_range HN.out HB1.out.symm (.inr (.inl HKB.out.symm))
          go_wp2_with (go_at_call 26; refine (hW2 _).mono ?_; rintro e w' ⟨rfl, hw⟩; have hw2 := hw.symm; subst hw2)
          go_ret
          exact ⟨rfl, Below.refl _ _⟩
        · cases kc
          · obtain rfl : r = 3 := by rw [HR.out]; exact ruleR_range HN.out HB1.out.symm (.inr (.inr HKC.out.symm))
            go_wp2_with (first | (go_at_call 26; refine (hW2 _).mono ?_; rintro e w' ⟨rfl, hw⟩; have hw2 := hw.symm; subst hw2) | (go_at_call 27; refine (hW3 _).mono ?_; rintro e w' ⟨rfl, hw⟩; have hw2 := hw.symm; subst hw2))
            go_ret
            exact ⟨rfl, Below.refl _ _⟩
          · go_wp2_with (first | (go_at_call 26; refine (hW2 _).mono ?_; rintro e w' ⟨rfl, hw⟩; have hw2 := hw.symm; subst hw2) | (go_at_call 27; refine (hW3 _).mono ?_; rintro e w' ⟨rfl, hw⟩; have hw2 := hw.symm; subst hw2))
            go_loopw [5] (fun i wr => ∃ j : Nat, j + 1 ≤ n ∧ i = .int .i64 ((j : Int) + 1) ∧ Hid (riseB 0 (l.take (j + 1)) = true) ∧ Below w.heap.size w wr) (fun i _ => n - (intOf i).toNat)
            case atStart => exact ⟨0, by have := inB_true.1 HB1.out.symm; omega, by go_num, riseB_one HN.out HB1.out.symm HALL.out, Below.refl _ _⟩
            case round =>
              obtain ⟨j, hj, rfl, HT, hbel⟩ := hrel
              by_cases hlt2 : j + 1 < n
              · rcases HI.out.2 with h0 | ⟨b0, o0, e0, l0, d0⟩
                · omega
                subst e0
                obtain ⟨s, hs⟩ : ∃ s, s = l.getD (j + 1) 0 := ⟨_, rfl⟩
                obtain ⟨t, ht⟩ : ∃ t, t = l.getD j 0 := ⟨_, rfl⟩
                have x0 := (hbel.cell (p := ⟨b0, o0 + (j + 1), none⟩) l0).trans (d0 (j + 1) hlt2)
                have x1 := (hbel.cell (p := ⟨b0, o0 + j, none⟩) l0).trans (d0 j (by omega))
                rw [← hs] at x0
                rw [← ht] at x1
                have HS : Hid (s = l.getD (j + 1) 0) := hs
                have HTT : Hid (t = l.getD j 0) := ht
                clear hs ht d0
                have y0 := (hbel.cell (p := ⟨P, q, none⟩) hPl).trans p0
                have hki : (j : Int) + 1 < (n : Int) := by omega
                have hkj : (j : Int) < (n : Int) := by omega
                by_cases hst : s ≤ t
                · obtain rfl : r = 1 := by
                    rw [HR.out]
                    refine ruleR_form HN.out HB1.out.symm HALL.out HKB.out.symm HKC.out.symm (riseB_pre (pre := l.take (j + 1 + 1)) (List.take_prefix _ _) ?_)
                    rw [take_next HN.out hlt2 HS.out, riseB_snoc, lastK_take HN.out (by omega) HTT.out, decide_eq_false (by omega), Bool.and_false]
                  go_wp2
                  go_quiet (fail)
                  go_wp2
                  go_ret
                  exact ⟨rfl, hbel.trans (Joins.below_draws _ _ _)⟩
                · go_wp2
                  go_quiet (fail)
                  go_wp2
                  go_roundw
                  case rel => exact ⟨j + 1, by omega, by go_num, by show _ = _; rw [take_next HN.out hlt2 HS.out, riseB_snoc, lastK_take HN.out (by omega) HTT.out, HT.out, decide_eq_true (by omega)]; rfl, hbel.trans (Joins.below_draws _ _ _)⟩
                  case measure => simp [intOf]; omega
              · have y0 := (hbel.cell (p := ⟨P, q, none⟩) hPl).trans p0
                obtain rfl : r = 0 := by
                  have := HT.out
                  rw [take_all HN.out hlt2] at this
                  rw [HR.out]; exact ruleR_ok HN.out HB1.out.symm HALL.out HKB.out.symm HKC.out.symm this
                have hki : ¬ (j : Int) + 1 < (n : Int) := by omega
                go_wp2
                go_ret
                exact ⟨rfl, hbel⟩

def refB (r : Int × Int) : Bool := inB r.1 1 60 && inB r.2 0 3

theorem l3Ref_any (a b : Int) (w : World) : Calls Try.prog 48 #[.agg #[.int .i64 a, .int .i64 b]] w fun e w' => e = .returned (.bool (refB (a, b))) ∧ Below w.heap.size w w' := by
  obtain ⟨ka, hka⟩ : ∃ k, k = inB a 1 60 := ⟨_, rfl⟩
  obtain ⟨kb, hkb⟩ : ∃ k, k = inB b 0 3 := ⟨_, rfl⟩
  have hr : refB (a, b) = (ka && kb) := by rw [hka, hkb]; rfl
  have h1 : ∀ v, Calls Try.prog 26 #[.int .i64 a, .int .i64 1, .int .i64 60] v fun e w' => e = .returned (.bool ka) ∧ w' = v := fun v => by rw [hka]; exact l1In_any _ _ _ v
  have h2 : ∀ v, Calls Try.prog 26 #[.int .i64 b, .int .i64 0, .int .i64 3] v fun e w' => e = .returned (.bool kb) ∧ w' = v := fun v => by rw [hkb]; exact l1In_any _ _ _ v
  rw [hr]
  clear hka hkb hr
  have hbx : Below w.heap.size w (w.alloc (.cells #[.int .i64 a, .int .i64 b] 38)) := below_box _
  cases ka <;> cases kb
  all_goals
    go_enter Try.func48, Try.ntmps48
    go_wp2_with (go_at_call 26; (first | (refine (h1 _).mono ?_; clear h1) | (refine (h2 _).mono ?_; clear h2)); rintro e w' ⟨rfl, hw⟩; have hw2 := hw.symm; subst hw2)
    go_ret
    exact ⟨rfl, hbx⟩

def outsR : List Ou → Int
  | [] => 0
  | o :: t => if inB o.v 1 1000000 = false then 3 else if ruleR o.l o.x o.y ≠ 0 then ruleR o.l o.x o.y else outsR t

theorem drop_next {os : List Ou} {n k : Nat} (hn : os.length = n) (hk : k < n) {o : Ou} (ho : o = os.getD k O0) : os.drop k = o :: os.drop (k + 1) := by
  rw [List.drop_eq_getElem_cons (show k < os.length by omega)]
  congr 1
  rw [ho, List.getD, List.getElem?_eq_getElem (by omega)]
  rfl
theorem drop_none {os : List Ou} {n k : Nat} (hn : os.length = n) (hk : ¬ k < n) : outsR (os.drop k) = 0 := by rw [List.drop_of_length_le (by omega)]; rfl

def joinR (k : Int) (os : List Ou) : Int := if outsR os ≠ 0 then outsR os else if k = 1 ∧ (os.getD 0 O0).v < 100 then 8 else 0

end Go.Proofs.Ytdfijlcjmllplaa

namespace Go.Proofs.Ytdfijlcjmllplaa
open Go.RowKit Go.Maps Go.WideMaps

def refsR : List (Int × Int) → List (Int × Int) → Int
  | _, [] => 0
  | seen, r :: t => if refB r = false then 3 else if memB seen r = true then 7 else refsR (seen ++ [r]) t

def txR (k f : Int) (rs : List (Int × Int)) (os : List Ou) : Int :=
  if inB k 0 2 = false ∨ ¬ (k = 0 ↔ f = 0) then 1 else if k ≠ 0 ∧ inB f 1 999 = false then 3 else if inB rs.length 1 4 = false ∨ inB os.length 1 4 = false then 2
  else if refsR [] rs ≠ 0 then refsR [] rs else joinR k os


end Go.Proofs.Ytdfijlcjmllplaa

namespace Go.Proofs.Ytdfijlcjmllplaa
open Go.RowKit Go.Maps Go.WideMaps

def cmpI (a b : Int) : Int := if a < b then -1 else if b < a then 1 else 0
def cmpR (a b : Int × Int) : Int := if cmpI a.1 b.1 = 0 then cmpI a.2 b.2 else cmpI a.1 b.1
def outR (v : Int) (l : List Int) (x y : Int) : Int := if inB v 1 1000000 = false then 3 else ruleR l x y
def coinR (c : Co) : Int := if refB (c.p, c.q) = false ∨ inB c.h 0 999 = false then 3 else outR c.v c.l c.x c.y
def csR (pr : Int × Int) : List Co → Int
  | [] => 0
  | c :: t => if coinR c ≠ 0 then coinR c else if cmpR (c.p, c.q) pr ≤ 0 then 1 else csR (c.p, c.q) t
def prevR (cs : List Co) : Nat → Int × Int
  | 0 => (0, 0)
  | j + 1 => ((cs.getD j C0).p, (cs.getD j C0).q)
def coinsR (cs : List Co) : Int := if 40 < cs.length then 2 else csR (0, 0) cs

theorem cmpI_zero {a b : Int} : cmpI a b = 0 ↔ a = b := by
  unfold cmpI; by_cases h : a < b
  · simp [h]; omega
  · by_cases h2 : b < a
    · simp [h, h2]; omega
    · simp [h, h2]; omega
theorem cmpI_pos {a b : Int} : 0 < cmpI a b ↔ b < a := by
  unfold cmpI; by_cases h : a < b
  · simp [h]; omega
  · by_cases h2 : b < a <;> simp [h, h2]
theorem cmpR_pos {a b c d : Int} : 0 < cmpR (c, d) (a, b) ↔ a < c ∨ a = c ∧ b < d := by
  unfold cmpR
  by_cases h : c = a
  · subst h
    rw [if_pos (cmpI_zero.2 rfl), cmpI_pos]
    constructor
    · exact fun h => .inr ⟨rfl, h⟩
    · rintro (h | h)
      · omega
      · exact h.2
  · rw [if_neg (fun e => h (cmpI_zero.1 e)), cmpI_pos]
    constructor
    · exact .inl
    · rintro (h' | h')
      · exact h'
      · exact absurd h'.1.symm h
theorem cmpR_neg {a b c d : Int} : cmpR (a, b) (c, d) < 0 ↔ a < c ∨ (a = c ∧ b < d) := by
  unfold cmpR cmpI
  simp only
  split <;> split <;> (try split) <;> omega
theorem coin_first {c : Co} (h : coinR c = 0) : ¬ cmpR (c.p, c.q) (0, 0) ≤ 0 := by
  have h1 : refB (c.p, c.q) = true := by
    cases e : refB (c.p, c.q)
    · unfold coinR at h; rw [if_pos (.inl e)] at h; cases h
    · rfl
  have h2 : 1 ≤ c.p := by
    simp [refB, inB] at h1
    omega
  have := (cmpR_pos (a := 0) (b := 0) (c := c.p) (d := c.q)).2 (.inl (by omega))
  omega
theorem csR_bad {c : Co} {t : List Co} {pr : Int × Int} {r : Int} (h : coinR c = r) (h0 : r ≠ 0) : csR pr (c :: t) = r := by rw [csR, h, if_pos h0]
theorem csR_form {c : Co} {t : List Co} {pr : Int × Int} (h : coinR c = 0) (h1 : cmpR (c.p, c.q) pr ≤ 0) : csR pr (c :: t) = 1 := by rw [csR, h, if_neg (by simp), if_pos h1]
theorem csR_go {c : Co} {t : List Co} {pr : Int × Int} (h : coinR c = 0) (h1 : ¬ cmpR (c.p, c.q) pr ≤ 0) : csR pr (c :: t) = csR (c.p, c.q) t := by rw [csR, h, if_neg (by simp), if_neg h1]
theorem prevR_succ {cs : List Co} {j : Nat} {o : Co} (ho : o = cs.getD j C0) : prevR cs (j + 1) = (o.p, o.q) := by rw [ho]; rfl
theorem next_coin {cs : List Co} {n j : Nat} {o : Co} (hn : cs.length = n) (hlt : j < n) (ho : o = cs.getD j C0) : cs.drop j = o :: cs.drop (j + 1) := by
  rw [ho, List.drop_eq_getElem_cons (by omega)]
  simp [List.getElem?_eq_getElem (show j < cs.length by omega)]

theorem l4Ahead_any (a b c d : Int) (w : World) : Calls Try.prog 49 #[.agg #[.int .i64 a, .int .i64 b], .agg #[.int .i64 c, .int .i64 d]] w fun e w' => e = .returned (.bool (decide (0 < cmpR (c, d) (a, b)))) ∧ Below w.heap.size w w' := by
  have hbx : Below w.heap.size w ((w.alloc (.cells #[.int .i64 a, .int .i64 b] 38)).alloc (.cells #[.int .i64 c, .int .i64 d] 38)) := below_box2 _ _
  by_cases h : a = c
  · subst h
    have hv : decide (0 < cmpR (a, d) (a, b)) = decide (b < d) := by
      rw [decide_eq_decide, cmpR_pos]; constructor
      · rintro (h | h)
        · omega
        · exact h.2
      · exact fun h => .inr ⟨rfl, h⟩
    rw [hv]
    go_enter Try.func49, Try.ntmps49
    go_wp2
    go_ret
    exact ⟨rfl, hbx⟩
  · have e : (a != c) = true := by simp [h]
    have hv : decide (0 < cmpR (c, d) (a, b)) = decide (a < c) := by
      rw [decide_eq_decide, cmpR_pos]; constructor
      · rintro (h' | h')
        · exact h'
        · exact absurd h'.1 h
      · exact .inl
    rw [hv]
    go_enter Try.func49, Try.ntmps49
    go_wp2
    go_ret
    exact ⟨rfl, hbx⟩

theorem l4Out_any (P q n cap : Nat) (a : Option Addr) (v : Int) (l : List Int) (x y : Int) (w : World) (hl : n ≤ 1048576) (hI : IAt w a n l) (hPl : P < w.heap.size) (pv : w.cell? ⟨P, q, none⟩ = some (.int .i64 v)) (p0 : w.cell? ⟨P, q + 1, none⟩ = some (.slice a n cap)) (p1 : w.cell? ⟨P, q + 2, none⟩ = some (.int .i64 x)) (p2 : w.cell? ⟨P, q + 3, none⟩ = some (.int .i64 y)) :
    Calls Try.prog 28 #[.pointer (some ⟨P, q, none⟩)] w fun e w' => e = .returned (.int .i64 (outR v l x y)) ∧ Below w.heap.size w w' := by
  have hlf := l2FaultAt_any P (q + 1) n cap a l x y w hl hI hPl p0 p1 p2
  obtain ⟨kv, hkv⟩ : ∃ k, k = inB v 1 1000000 := ⟨_, rfl⟩
  have hin : ∀ u, Calls Try.prog 26 #[.int .i64 v, .int .i64 1, .int .i64 1000000] u fun e w' => e = .returned (.bool kv) ∧ w' = u := fun u => by rw [hkv]; exact l1In_any _ _ _ u
  cases kv
  · have e : outR v l x y = 3 := by unfold outR; rw [if_pos hkv.symm]
    rw [e]
    clear hkv e hI
    go_enter Try.func28, Try.ntmps28
    go_wp2_with (go_at_call 26; refine (hin _).mono ?_; rintro e w' ⟨rfl, hw⟩; have hw2 := hw.symm; subst hw2)
    go_ret
    exact ⟨rfl, Below.refl _ _⟩
  · have e : outR v l x y = ruleR l x y := by unfold outR; rw [if_neg (by rw [← hkv]; simp)]
    rw [e]
    clear hkv e hI
    go_enter Try.func28, Try.ntmps28
    go_wp2_with (first | (go_at_call 26; refine (hin _).mono ?_; rintro e w' ⟨rfl, hw⟩; have hw2 := hw.symm; subst hw2) | (go_at_call 50; refine hlf.mono ?_; rintro e w3 ⟨rfl, hb3⟩))
    go_ret
    exact ⟨rfl, hb3⟩

set_option maxRecDepth 20000 in
set_option maxHeartbeats 2000000 in
theorem l4Fault_any (n c : Nat) (a : Option Addr) (cs : List Co) (w : World) (hn : n ≤ 1048576) (hk : ∀ j, j < n → (cs.getD j C0).l.length ≤ 1048576) (hC : CAt w a n cs) :
    Calls Try.prog 25 #[.slice a n c] w fun e w' => e = .returned (.int .i64 (coinsR cs)) ∧ Below w.heap.size w w' := by
  have HC : Hid (CAt w a n cs) := hC
  have HN : Hid (cs.length = n) := hC.1
  have HKL : Hid (∀ j, j < n → (cs.getD j C0).l.length ≤ 1048576) := hk
  obtain ⟨r, hr⟩ : ∃ r, r = coinsR cs := ⟨_, rfl⟩
  rw [← hr]
  have HR : Hid (r = coinsR cs) := hr
  clear hC hk hr
  by_cases h40 : 40 < n
  · obtain rfl : r = 2 := by rw [HR.out]; unfold coinsR; rw [if_pos (by rw [HN.out]; exact h40)]
    go_enter Try.func25, Try.ntmps25
    go_wp2
    go_ret
    exact ⟨rfl, Below.refl _ _⟩
  have HR2 : Hid (r = csR (0, 0) cs) := by show _ = _; rw [HR.out]; unfold coinsR; rw [if_neg (by rw [HN.out]; exact h40)]
  go_enter Try.func25, Try.ntmps25
  go_wp2
  go_loopw [3] (fun i wr => ∃ j : Nat, j ≤ n ∧ i = .int .i64 j ∧ Below w.heap.size w wr ∧ Hid (r = csR (prevR cs j) (cs.drop j))) (fun i _ => n - (intOf i).toNat)
  case atStart => exact ⟨0, Nat.zero_le _, rfl, Below.refl _ _, HR2.out⟩
  case round =>
    obtain ⟨j, hj, rfl, hbel, HT⟩ := hrel
    by_cases hlt : j < n
    · rcases HC.out.2 with h0 | ⟨b, off, e0, l0, d0⟩
      · omega
      subst e0
      obtain ⟨o, ho⟩ : ∃ o, o = cs.getD j C0 := ⟨_, rfl⟩
      obtain ⟨ka, kc, p0, p4, p5⟩ := d0 j hlt
      have hol := HKL.out j hlt
      rw [← ho] at p0 p4 p5 hol
      have HS : Hid (o = cs.getD j C0) := ho
      obtain ⟨op, oq, ov, ol, ox, oy, oh, om⟩ := o
      obtain ⟨x0, x1, x2, x3, x4, x5, x6, x7⟩ := p0.below hbel l0
      simp only at x0 x1 x2 x3 x4 x5 x6 x7 hol p5
      have HNX : Hid (cs.drop j = (⟨op, oq, ov, ol, ox, oy, oh, om⟩ : Co) :: cs.drop (j + 1)) := next_coin HN.out hlt HS.out
      have hlw : b < wr.heap.size := Nat.lt_of_lt_of_le l0 hbel.size
      obtain ⟨kr, hkr⟩ : ∃ k, k = refB (op, oq) := ⟨_, rfl⟩
      obtain ⟨kh, hkh⟩ : ∃ k, k = inB oh 0 999 := ⟨_, rfl⟩
      have hrf := l3Ref_any op oq wr
      rw [← hkr] at hrf
      have HKR : Hid (kr = refB (op, oq)) := hkr
      have hht : ∀ v, Calls Try.prog 27 #[.int .i64 oh] v fun e w' => e = .returned (.bool kh) ∧ w' = v := fun v => by rw [hkh]; exact l2Height_any _ v
      have HKH : Hid (kh = inB oh 0 999) := hkh
      have HI : Hid (IAt w ka ol.length ol) := p5
      obtain ⟨cd, hcd⟩ : ∃ c, c = outR ov ol ox oy := ⟨_, rfl⟩
      have HCD : Hid (cd = outR ov ol ox oy) := hcd
      clear ho p0 p4 p5 hkr hkh hcd
      have hki : (j : Int) < (n : Int) := by omega
      have HX : Hid (CoAt wr b (off + j * 8) ⟨op, oq, ov, ol, ox, oy, oh, om⟩ ka kc) := ⟨x0, x1, x2, x3, x4, x5, x6, x7⟩
      cases kr
      · obtain rfl : r = 3 := by
          have e : coinR ⟨op, oq, ov, ol, ox, oy, oh, om⟩ = 3 := by unfold coinR; rw [if_pos (.inl HKR.out.symm)]
          rw [HT.out, HNX.out, csR_bad e (by simp)]
        clear d0
        go_wp2_with (first | (go_at_call 48; refine hrf.mono ?_; clear hrf; rintro e w2 ⟨rfl, hb2⟩))
        go_ret
        exact ⟨rfl, hbel.trans (hb2.mono hbel.size)⟩
      cases kh
      · obtain rfl : r = 3 := by
          have e : coinR ⟨op, oq, ov, ol, ox, oy, oh, om⟩ = 3 := by unfold coinR; rw [if_pos (.inr HKH.out.symm)]
          rw [HT.out, HNX.out, csR_bad e (by simp)]
        clear d0
        go_wp2_with (first | (go_at_call 48; refine hrf.mono ?_; clear hrf; rintro e w2 ⟨rfl, hb2⟩; clear x0 x1 x2 x3 x4 x5 x6 x7; obtain ⟨x0, x1, x2, x3, x4, x5, x6, x7⟩ := HX.out.below hb2 hlw; simp only at x0 x1 x2 x3 x4 x5 x6 x7) | (go_at_call 27; refine (hht _).mono ?_; rintro e w' ⟨rfl, hw⟩; have hw2 := hw.symm; subst hw2))
        go_ret
        exact ⟨rfl, hbel.trans (hb2.mono hbel.size)⟩
      have HCE : Hid (coinR ⟨op, oq, ov, ol, ox, oy, oh, om⟩ = cd) := by
        show _ = _
        rw [HCD.out]; unfold coinR
        rw [if_neg]
        rintro (h | h)
        · rw [← HKR.out] at h; cases h
        · rw [← HKH.out] at h; cases h
      by_cases hc0 : cd = 0
      · have hcr := coin_first (HCE.out.trans hc0)
        simp only at hcr
        by_cases hj0 : ¬ (0 : Int) < (j : Int)
        · have hj00 : j = 0 := by omega
          have hcr2 : ¬ cmpR (op, oq) (prevR cs j) ≤ 0 := by rw [hj00]; exact hcr
          have HTN : Hid (r = csR (prevR cs (j + 1)) (cs.drop (j + 1))) := by
            show _ = _
            rw [HT.out, HNX.out, csR_go (HCE.out.trans hc0) hcr2, prevR_succ HS.out]
          have hd : decide (0 < j) = false := decide_eq_false (by omega)
          clear hj00 hcr2
          clear d0 hcr
          subst hc0
          go_wp2_with (first | (go_at_call 48; refine hrf.mono ?_; clear hrf; rintro e w2 ⟨rfl, hb2⟩; clear x0 x1 x2 x3 x4 x5 x6 x7; obtain ⟨x0, x1, x2, x3, x4, x5, x6, x7⟩ := HX.out.below hb2 hlw; simp only at x0 x1 x2 x3 x4 x5 x6 x7; have hlf := l4Out_any b (off + j * 8 + 2) ol.length kc ka ov ol ox oy w2 hol (HI.out.below (hbel.trans (hb2.mono hbel.size)) (Nat.le_refl _)) (Nat.lt_of_lt_of_le hlw hb2.size) x2 x3 x4 x5; rw [← HCD.out] at hlf) | (go_at_call 27; refine (hht _).mono ?_; rintro e w' ⟨rfl, hw⟩; have hw2 := hw.symm; subst hw2) | (go_at_call 28; refine hlf.mono ?_; clear hlf; rintro e w3 ⟨rfl, hb3⟩))
          go_quiet (fail)
          go_wp2
          go_roundw
          case rel => exact ⟨j + 1, by omega, by go_num, ((hbel.trans (hb2.mono hbel.size)).trans (hb3.mono (by have := hbel.size; have := hb2.size; omega))).trans (Joins.below_draws _ _ _), HTN⟩
          case measure => simp [intOf]; omega
        · have hj0 : (0 : Int) < (j : Int) := by omega
          have hd : decide (0 < j) = true := decide_eq_true (by omega)
          obtain ⟨i, hi⟩ : ∃ i, j = i + 1 := ⟨j - 1, by omega⟩
          have hsub : IntKind.i64.wrap ((j : Int) - 1) = (i : Int) := by rw [show (j : Int) - 1 = (i : Int) by omega]; exact IntWalk.i64_in _ (by omega)
          have HJI : Hid (j = i + 1) := hi
          obtain ⟨o1, ho1⟩ : ∃ o, o = cs.getD i C0 := ⟨_, rfl⟩
          obtain ⟨ja, jc, q0, _, _⟩ := d0 i (by omega)
          rw [← ho1] at q0
          have HS1 : Hid (o1 = cs.getD i C0) := ho1
          obtain ⟨np, nq, nv, nl, nx, ny, nh, nm⟩ := o1
          have HQ : Hid (CoAt wr b (off + i * 8) ⟨np, nq, nv, nl, nx, ny, nh, nm⟩ ja jc) := q0.below hbel l0
          obtain ⟨kb, hkb⟩ : ∃ k, k = decide (0 < cmpR (op, oq) (np, nq)) := ⟨_, rfl⟩
          have hpr : prevR cs j = (np, nq) := by rw [hi]; exact prevR_succ HS1.out
          have HKB : Hid (kb = decide (0 < cmpR (op, oq) (np, nq))) := hkb
          have HPR : Hid (prevR cs j = (np, nq)) := hpr
          have hkm : (i : Int) < (n : Int) := by omega
          have hk0 : (0 : Int) ≤ (i : Int) := by omega
          clear d0 hcr q0 ho1 hkb hpr hi
          subst hc0
          go_wp2_with (first | (go_at_call 48; refine hrf.mono ?_; clear hrf; rintro e w2 ⟨rfl, hb2⟩; clear x0 x1 x2 x3 x4 x5 x6 x7; obtain ⟨x0, x1, x2, x3, x4, x5, x6, x7⟩ := HX.out.below hb2 hlw; simp only at x0 x1 x2 x3 x4 x5 x6 x7; have hlf := l4Out_any b (off + j * 8 + 2) ol.length kc ka ov ol ox oy w2 hol (HI.out.below (hbel.trans (hb2.mono hbel.size)) (Nat.le_refl _)) (Nat.lt_of_lt_of_le hlw hb2.size) x2 x3 x4 x5; rw [← HCD.out] at hlf) | (go_at_call 27; refine (hht _).mono ?_; rintro e w' ⟨rfl, hw⟩; have hw2 := hw.symm; subst hw2) | (go_at_call 28; refine hlf.mono ?_; clear hlf; rintro e w3 ⟨rfl, hb3⟩))
          have hbw : Below w.heap.size w w3 := (hbel.trans (hb2.mono hbel.size)).trans (hb3.mono (by have := hbel.size; have := hb2.size; omega))
          have hbr : Below wr.heap.size wr w3 := hb2.trans (hb3.mono hb2.size)
          clear x0 x1 x2 x3 x4 x5 x6 x7
          obtain ⟨x0, x1, _⟩ := HX.out.below hbr hlw
          obtain ⟨y0, y1, _⟩ := HQ.out.below hbr hlw
          simp only at x0 x1 y0 y1
          have hl3 : b < w3.heap.size := Nat.lt_of_lt_of_le hlw hbr.size
          have hah : Calls Try.prog 49 #[.agg #[.int .i64 np, .int .i64 nq], .agg #[.int .i64 op, .int .i64 oq]] w3.drew fun e w' => e = .returned (.bool kb) ∧ Below w3.heap.size w3 w' := by
            rw [HKB.out]; exact (l4Ahead_any np nq op oq w3.drew).mono fun e w' h => ⟨h.1, (Below.refl _ _).drew.trans h.2⟩
          clear hb2 hb3 hbr
          go_region_held3 (fun w' => w'.cell? ⟨b, off + j * 8, none⟩ = some (.int .i64 op) ∧ w'.cell? ⟨b, off + j * 8 + 1, none⟩ = some (.int .i64 oq) ∧ w'.cell? ⟨b, off + i * 8, none⟩ = some (.int .i64 np) ∧ w'.cell? ⟨b, off + i * 8 + 1, none⟩ = some (.int .i64 nq)) (go_keep)
            (first | (go_at_call 49; refine hah.mono ?_; rintro e w4 ⟨rfl, hb4⟩; have z0 := (hb4.cell (p := ⟨b, off + j * 8, none⟩) hl3).trans x0; have z1 := (hb4.cell (p := ⟨b, off + j * 8 + 1, none⟩) hl3).trans x1; have z2 := (hb4.cell (p := ⟨b, off + i * 8, none⟩) hl3).trans y0; have z3 := (hb4.cell (p := ⟨b, off + i * 8 + 1, none⟩) hl3).trans y1))
          cases kb
          · obtain rfl : r = 1 := by
              have hle : cmpR (op, oq) (np, nq) ≤ 0 := by have := of_decide_eq_false HKB.out.symm; omega
              rw [HT.out, HNX.out, HPR.out, csR_form HCE.out hle]
            go_wp2
            go_ret
            exact ⟨rfl, hbw.trans (hb4.mono hbw.size)⟩
          · have HTN : Hid (r = csR (prevR cs (j + 1)) (cs.drop (j + 1))) := by
              have hle : ¬ cmpR (op, oq) (np, nq) ≤ 0 := by have := of_decide_eq_true HKB.out.symm; omega
              show _ = _
              rw [HT.out, HNX.out, HPR.out, csR_go HCE.out hle, prevR_succ HS.out]
            go_wp2
            go_roundw
            case rel => exact ⟨j + 1, by omega, by go_num, hbw.trans (hb4.mono hbw.size), HTN⟩
            case measure => simp [intOf]; omega
      · obtain rfl : r = cd := by rw [HT.out, HNX.out, csR_bad HCE.out hc0]
        clear d0
        go_wp2_with (first | (go_at_call 48; refine hrf.mono ?_; clear hrf; rintro e w2 ⟨rfl, hb2⟩; clear x0 x1 x2 x3 x4 x5 x6 x7; obtain ⟨x0, x1, x2, x3, x4, x5, x6, x7⟩ := HX.out.below hb2 hlw; simp only at x0 x1 x2 x3 x4 x5 x6 x7; have hlf := l4Out_any b (off + j * 8 + 2) ol.length kc ka ov ol ox oy w2 hol (HI.out.below (hbel.trans (hb2.mono hbel.size)) (Nat.le_refl _)) (Nat.lt_of_lt_of_le hlw hb2.size) x2 x3 x4 x5; rw [← HCD.out] at hlf) | (go_at_call 27; refine (hht _).mono ?_; rintro e w' ⟨rfl, hw⟩; have hw2 := hw.symm; subst hw2) | (go_at_call 28; refine hlf.mono ?_; clear hlf; rintro e w3 ⟨rfl, hb3⟩))
        go_ret
        exact ⟨rfl, (hbel.trans (hb2.mono hbel.size)).trans (hb3.mono (by have := hbel.size; have := hb2.size; omega))⟩
    · obtain rfl : r = 0 := by rw [HT.out, List.drop_eq_nil_of_le (by rw [HN.out]; omega)]; rfl
      go_wp2
      go_ret
      exact ⟨rfl, hbel⟩

end Go.Proofs.Ytdfijlcjmllplaa
