/- The program's two-way tables: a slice of what is noted and a map from it to its number, behind a pointer; what their methods do. -/
import Derived.Test.YtaopblgnmmhjfaaBase
import Derived.Deep.QuietTactic
import Derived.BigQuiet
import Derived.Lib.SmallJoins
import Derived.Deep.RegionHeld3
import Derived.Deep.AppendLies
import Derived.DeepKeys4
namespace Go.Proofs.Ytaopblgnmmhjfaa
open Go.RowKit Go.Maps Go.WideMaps

theorem kS : Keyed Try.prog 9 := string_keyed Try.underlying9
theorem Try.laidOut : laidOutB Try.prog = true := by kernel_rfl
theorem kG : Keyed Try.prog 115 := Keyed.of_law (deep_law_laid Try.laidOut (m := 2) (by omega) (of_decide_eq_true (by kernel_rfl)) (by kernel_rfl) (by kernel_rfl))
theorem zeroI (w : World) : (zeroValue 2).run Try.prog w = .ok (.int .i64 0) w := by kernel_rfl

theorem zeroI_any (w : World) : (zeroValue 2).run Try.prog w = .ok (.int .i64 0) w := zeroI w

/-- The map in block B tells the number of each x of l. -/
def Tab {A : Type} [DecidableEq A] (k : TypeId) (enc : A → Value) (w : World) (B : Nat) (l : List A) : Prop :=
  ∃ D : DataW Unit, w.ownsMap Try.prog k (plainElem Try.prog 2) B l.length D ∧ ∀ x kl, keyOf Try.prog k (enc x) = some kl → D.atKey kl (.lit (.int .i64 0)) = .lit (.int .i64 (num l x : Nat))

def encS (s : ByteArray) : Value := .string s
def encG (g : Int × Int) : Value := .agg #[.int .i64 g.1, .int .i64 g.2]
theorem encS_inj {a b : ByteArray} (h : encS a = encS b) : a = b := by simpa [encS] using h
theorem encG_inj {a b : Int × Int} (h : encG a = encG b) : a = b := by
  simp [encG] at h
  exact Prod.ext h.1 h.2

section
variable {A : Type} [DecidableEq A] {k : TypeId} {enc : A → Value} {w : World} {B : Nat} {l : List A}

theorem Tab.made (w : World) : Tab k enc (w.alloc (.map #[] 0)) w.heap.size ([] : List A) :=
  ⟨.map [], World.ownsMap_made _ _ _ _, fun _ _ _ => rfl⟩

theorem Tab.lt (h : Tab k enc w B l) : B < w.heap.size := by obtain ⟨D, ho, _⟩ := h; exact ho.lt

theorem Tab.kept {w' : World} {row : Option Nat} (h : Tab k enc w B l) (hg : w.grownBy w' row) (hne : some B ≠ row) : Tab k enc w' B l := by
  obtain ⟨D, ho, ha⟩ := h
  exact ⟨D, ho.kept hg hne, ha⟩

theorem Tab.setCell (h : Tab k enc w B l) {a : Addr} (ha : B ≠ a.block) (u : Value) : Tab k enc (w.setCell a u) B l := by
  obtain ⟨D, ho, hat⟩ := h
  exact ⟨D, ho.setCell ha u, hat⟩

theorem Tab.alloc (h : Tab k enc w B l) (o : Obj) : Tab k enc (w.alloc o) B l := by
  obtain ⟨D, ho, hat⟩ := h
  exact ⟨D, ho.alloc o, hat⟩

theorem Tab.drew (h : Tab k enc w B l) : Tab k enc w.drew B l := by
  obtain ⟨D, ho, hat⟩ := h
  exact ⟨D, ho, hat⟩

theorem Tab.draws (h : Tab k enc w B l) (n : Nat) : Tab k enc (w.drewN n) B l := by
  obtain ⟨D, ho, hat⟩ := h
  exact ⟨D, ho, hat⟩

theorem Tab.look (h : Tab k enc w B l) (K : Keyed Try.prog k) {t : TypeId} (ht : Try.prog.underlying t = some (.map k 2)) {x : A} {kl : Lit} (hk : keyOf Try.prog k (enc x) = some kl) :
    (Instr.lookup t (.map (some B)) (enc x) false).run Try.prog w = .ok (.int .i64 (num l x : Nat)) w := by
  obtain ⟨D, ho, hat⟩ := h
  obtain ⟨c, hrun, hc, _⟩ := ho.lookup_int K ht Try.underlying2 (zeroI _) hk
  rw [hat x kl hk] at hc
  have : (num l x : Int) = c := by simpa using hc
  rw [hrun, this]

theorem Tab.store (h : Tab k enc w B l) (K : Keyed Try.prog k) (he : ∀ {a b : A}, enc a = enc b → a = b) {t : TypeId} (ht : Try.prog.underlying t = some (.map k 2)) {x : A} {kl : Lit} (hk : keyOf Try.prog k (enc x) = some kl)
    (hx : num l x = 0) (hl : l.length ≤ 1000) {c : Int} (hc : c = l.length + 1) :
    ∃ w', (Instr.mapUpdate t (.map (some B)) (enc x) (.int .i64 c)).run Try.prog w = .ok () w' ∧ Tab k enc w' B (l ++ [x]) ∧ w.grownBy w' (some B) := by
  obtain ⟨D, ho, hat⟩ := h
  obtain ⟨w', hrun, ho', hg⟩ := ho.update K ht (by unfold maxLen; omega) hk (plainElem_int (q := .i64) Try.underlying2 (WalkArith.wf_i64 (n := c) (by omega)))
  refine ⟨w', hrun, ⟨_, by simpa using ho', fun y kl' hy => ?_⟩, hg⟩
  rw [num_snoc l x y ((num_zero l x).1 hx)]
  by_cases e : y = x
  · subst e
    rw [hk] at hy
    cases hy
    rw [atKey_put_same ho.isMap (K.key hk), if_pos rfl, hc]
    simp
  · rw [if_neg e, atKey_put_other (k := kl) (k' := kl') (fun e2 => e (he (K.inj hy (by rw [e2]; exact hk)))), hat y kl' hy]
end

/-- The table of texts behind the pointer to block p. -/
def TwS (w : World) (base p : Nat) (l : List ByteArray) : Prop :=
  ∃ iv B, w.heap[p]? = some (.cells #[iv, .map (some B)] 172 (0, 0)) ∧ base ≤ p ∧ base ≤ B ∧ w.ownsRow base 9 1 iv l.length (l.map Value.string) ∧ Tab 9 encS w B l

theorem numS_any (p B : Nat) (l : List ByteArray) (x : ByteArray) (w : World) (hx : x.size ≤ maxLen) (hM : w.cell? ⟨p, 1, none⟩ = some (.map (some B))) (hT : Tab 9 encS w B l) :
    Calls Try.prog 75 #[.pointer (some ⟨p, 0, none⟩), .string x] w fun e w' => e = .returned (.int .i64 (num l x : Nat)) ∧ w' = w := by
  have hrun := hT.look kS Try.underlying170 (x := x) (keyOf_string_mk Try.underlying9 hx)
  unfold encS at hrun
  clear hT
  go_enter Try.func75, Try.ntmps75
  go_wp2
  go_ret
  exact ⟨rfl, rfl⟩

theorem countS_any (p n cap : Nat) (a : Option Addr) (w : World) (hI : w.cell? ⟨p, 0, none⟩ = some (.slice a n cap)) :
    Calls Try.prog 76 #[.pointer (some ⟨p, 0, none⟩)] w fun e w' => e = .returned (.int .i64 n) ∧ w' = w := by
  go_enter Try.func76, Try.ntmps76
  go_wp2
  go_ret
  exact ⟨rfl, rfl⟩

theorem below_grown_self {w w' : World} {B row : Nat} (hg : w.grownBy w' (some row)) (hB : B ≤ row) (hs : B ≤ w.heap.size) : Below B w w' := (Below.refl _ _).grown hg hs (fun k h => by cases h; exact hB)

/-- What the new item leaves behind the append and the store into the field: all that the table was, the slice one longer. -/
theorem addS_mid {w w1 : World} {base p B g cap : Nat} {iv : Value} {l : List ByteArray} {x : ByteArray} (hp : w.heap[p]? = some (.cells #[iv, .map (some B)] 172 (0, 0))) (hbp : base ≤ p) (hbB : base ≤ B)
    (ho : w.ownsRow base 9 1 iv l.length (l.map Value.string)) (ht : Tab 9 encS w B l)
    (ho1 : w1.ownsRow base 9 1 (.slice (some ⟨g, 0, none⟩) (l.length + 1) cap) (l.length + 1) (l.map Value.string ++ [.string x])) (hg1 : (w.alloc (.cells #[.string x] 9)).grownBy w1 iv.ownBlock) :
    iv.ownBlock ≠ some p ∧ iv.ownBlock ≠ some B ∧ w1.heap[p]? = some (.cells #[iv, .map (some B)] 172 (0, 0)) ∧ p ≠ g ∧ Tab 9 encS w1 B l ∧ p ≠ B ∧ Below base w w1 := by
  have hpl : p < w.heap.size := lt_of_block hp
  have hBl : B < w.heap.size := ht.lt
  have hne : ∀ q o, w.heap[q]? = some o → (∀ cur, o ≠ .cells cur 9 (0, 0)) → iv.ownBlock ≠ some q := by
    intro q o hq hno hiv
    rcases ho.2 with ⟨rfl, _⟩ | ⟨g', c', cur, rfl, _, hh, _⟩
    · simp [Value.ownBlock] at hiv
    · simp [Value.ownBlock] at hiv
      subst hiv
      rw [hh] at hq
      exact hno cur (by simpa using hq.symm)
  have n1 : iv.ownBlock ≠ some p := hne p _ hp (fun cur e => by simp at e)
  obtain ⟨D, hD, _⟩ := id ht
  obtain ⟨es, ck, hes, _⟩ := hD
  have n2 : iv.ownBlock ≠ some B := hne B _ hes (fun cur e => by simp at e)
  have a1 : (w.alloc (.cells #[.string x] 9)).heap[p]? = some (.cells #[iv, .map (some B)] 172 (0, 0)) := (Below.heap_alloc w _ p hpl).trans hp
  have hp1 := (hg1.block p (by simp; omega) (Ne.symm n1)).trans a1
  have hgp : p ≠ g := by
    rintro rfl
    rcases ho1.2 with ⟨h, _⟩ | ⟨g', c', cur, h, _, hh, _⟩
    · cases h
    · simp at h
      rw [← h.1, hp1] at hh
      simp at hh
  have hpB : p ≠ B := by rintro rfl; rw [hp] at hes; simp at hes
  refine ⟨n1, n2, hp1, hgp, (ht.alloc _).kept hg1 (Ne.symm n2), hpB, ?_⟩
  refine ((Below.refl base w).alloc (by omega) _).grown hg1 (by simp; omega) (fun k hk => ?_)
  exact (ho.lt k hk).1

set_option maxRecDepth 20000 in
set_option maxHeartbeats 400000 in
theorem addS_new (p base : Nat) (l : List ByteArray) (x : ByteArray) (w : World) (hl : l.length ≤ 100) (hx : x.size ≤ maxLen) (hn : num l x = 0) (h : TwS w base p l) :
    Calls Try.prog 77 #[.pointer (some ⟨p, 0, none⟩), .string x] w fun e w' => e = .returned (.bool true) ∧ TwS w' base p (l ++ [x]) ∧ Below base w w' := by
  obtain ⟨iv, B, hp, hbp, hbB, ho, ht⟩ := h
  obtain ⟨i0, hi, hz0, hz1, hz2⟩ := info_parts Try.infoStr
  have hpl : p < w.heap.size := lt_of_block hp
  have c0 : w.cell? ⟨p, 0, none⟩ = some iv := by simp [World.cell?, hp]
  have c1 : w.cell? ⟨p, 1, none⟩ = some (.map (some B)) := by simp [World.cell?, hp]
  obtain ⟨ia, ic, rfl⟩ : ∃ ia ic, iv = .slice ia l.length ic := by
    rcases ho.2 with ⟨h1, h2⟩ | ⟨g, cap, cur, h1, _⟩
    · exact ⟨none, 0, by rw [h2]; exact h1⟩
    · exact ⟨_, _, h1⟩
  have HN : Hid (num l x = 0) := hn
  have hnum := numS_any p B l x w hx c1 ht
  rw [hn] at hnum
  clear hn
  go_enter Try.func77, Try.ntmps77
  go_wp2_with (first
    | (go_at_call 75; refine hnum.mono ?_; rintro e w' ⟨rfl, hw⟩; have hw2 := hw.symm; subst hw2)
    | (at_builtin; go_must (refine wpList_append_lies _ (by rfl) _ _ 24 (by rfl) base 9 i0 (.string ByteArray.empty) 1 16 Try.underlying24 hi hz0 hz1 hz2 rfl (by omega) (.slice ia l.length ic) l.length (l.map Value.string) (by rfl) (ho.alloc _) ⟨w.heap.size, 0, none⟩ 1 1 [.string x] (by rfl) (by rfl) ?c1 ?c2 (by omega) ?c3 ?c4 ?c5 (w.heap.size + 1) ?c6 ?_)))
  case c1 =>
    intro j u hj
    match j, hj with
    | 0, hj => simp at hj; subst hj; simp [Addr.add]
  case c2 => intro u hu; simp at hu; subst hu; rfl
  case c3 => unfold maxLen; omega
  case c4 => omega
  case c5 => simp; omega
  case c6 => simp
  intro g cap w1 ho1 hg1 hat hlt
  obtain ⟨n1, n2, hp1, hgp, ht1, hpB, hb1⟩ := addS_mid hp hbp hbB ho ht ho1 hg1
  have k0 : w1.cell? ⟨p, 0, none⟩ = some (.slice ia l.length ic) := by simp [World.cell?, hp1]
  have k1 : w1.cell? ⟨p, 1, none⟩ = some (.map (some B)) := by simp [World.cell?, hp1]
  have f0 : w1.frozen? ⟨p, 0, none⟩ = false := Joins.unfrozen_of_block hp1 0
  have ht2 := ht1.setCell (a := ⟨p, 0, none⟩) (Ne.symm hpB) (.slice (some ⟨g, 0, none⟩) (l.length + 1) cap)
  have hp2 : (w1.setCell ⟨p, 0, none⟩ (.slice (some ⟨g, 0, none⟩) (l.length + 1) cap)).heap[p]? = some (.cells #[.slice (some ⟨g, 0, none⟩) (l.length + 1) cap, .map (some B)] 172 (0, 0)) := by
    have := Joins.block_setCell (i := 0) hp1 (.slice (some ⟨g, 0, none⟩) (l.length + 1) cap)
    simpa using this
  have j0 : (w1.setCell ⟨p, 0, none⟩ (.slice (some ⟨g, 0, none⟩) (l.length + 1) cap)).cell? ⟨p, 0, none⟩ = some (.slice (some ⟨g, 0, none⟩) (l.length + 1) cap) := by unfold World.cell?; rw [hp2]; rfl
  have j1 : (w1.setCell ⟨p, 0, none⟩ (.slice (some ⟨g, 0, none⟩) (l.length + 1) cap)).cell? ⟨p, 1, none⟩ = some (.map (some B)) := by unfold World.cell?; rw [hp2]; rfl
  have hkey := keyOf_string_mk (P := Try.prog) Try.underlying9 hx
  obtain ⟨w3, hrun, ht3, hg3⟩ := (ht2.drew).store kS encS_inj Try.underlying170 (x := x) hkey HN.out (by omega) (c := (l.length : Int) + 1) rfl
  unfold encS at hrun
  have hp3 : w3.heap[p]? = some (.cells #[.slice (some ⟨g, 0, none⟩) (l.length + 1) cap, .map (some B)] 172 (0, 0)) := (hg3.block p (lt_of_block (w := (w1.setCell ⟨p, 0, none⟩ (.slice (some ⟨g, 0, none⟩) (l.length + 1) cap)).drew) hp2) (by simpa using hpB)).trans hp2
  have m0 : w3.cell? ⟨p, 0, none⟩ = some (.slice (some ⟨g, 0, none⟩) (l.length + 1) cap) := by unfold World.cell?; rw [hp3]; rfl
  have m1 : w3.cell? ⟨p, 1, none⟩ = some (.map (some B)) := by unfold World.cell?; rw [hp3]; rfl
  have HT3 : Hid (TwS w3 base p (l ++ [x]) ∧ Below base w w3) := by
    have hgB : g ≠ B := by
      rintro rfl
      obtain ⟨D, ⟨es, ck, hes, _⟩, _⟩ := ht1
      rcases ho1.2 with ⟨h, _⟩ | ⟨g', c', cur, h, _, hh, _⟩
      · cases h
      · simp at h
        rw [← h.1, hes] at hh
        simp at hh
    have r1 := (ownsRow_setCell_other ho1 (a := ⟨p, 0, none⟩) (by simpa [Value.ownBlock] using Ne.symm hgp) (.slice (some ⟨g, 0, none⟩) (l.length + 1) cap)).drew.kept hg3 (by simp [Value.ownBlock]; exact hgB)
    refine ⟨⟨_, B, hp3, hbp, hbB, by simpa using r1, ht3⟩, ?_⟩
    exact (hb1.setCell (p := ⟨p, 0, none⟩) hbp _).drew.grown hg3 (Nat.le_trans hbp (Nat.le_of_lt (lt_of_block hp2))) (fun k h => by cases h; exact hbB)
  clear ht2 ht1 ht3 hg3 hp3 hp2
  have HO1 : Hid (w1.ownsRow base 9 1 (.slice (some ⟨g, 0, none⟩) (l.length + 1) cap) (l.length + 1) (l.map Value.string ++ [.string x])) := ho1
  clear ho1 hg1 hat ho ht hnum hkey hi hz0 hz1 hz2
  go_wp2
  go_region_held3 (fun w' => w'.cell? ⟨p, 0, none⟩ = some (.slice (some ⟨g, 0, none⟩) (l.length + 1) cap) ∧ w'.cell? ⟨p, 1, none⟩ = some (.map (some B))) (go_keep)
    (first | (go_at_call 76; refine (countS_any p (l.length + 1) cap (some ⟨g, 0, none⟩) _ ?_).mono ?_; (simp [*]); rintro e w' ⟨rfl, rfl⟩))
  go_wp2
  go_ret
  exact ⟨rfl, HT3.out⟩

theorem addS_old (p base : Nat) (l : List ByteArray) (x : ByteArray) (w : World) (hx : x.size ≤ maxLen) (hn : ¬ num l x = 0) (h : TwS w base p l) :
    Calls Try.prog 77 #[.pointer (some ⟨p, 0, none⟩), .string x] w fun e w' => e = .returned (.bool false) ∧ w' = w := by
  obtain ⟨iv, B, hp, hbp, hbB, ho, ht⟩ := h
  have c1 : w.cell? ⟨p, 1, none⟩ = some (.map (some B)) := by simp [World.cell?, hp]
  obtain ⟨c, hc⟩ : ∃ c, c = num l x := ⟨_, rfl⟩
  have hnum := numS_any p B l x w hx c1 ht
  rw [← hc] at hnum hn
  have hcz : (c : Int) ≠ 0 := by omega
  clear hc ho ht
  go_enter Try.func77, Try.ntmps77
  go_wp2_with (first | (go_at_call 75; refine hnum.mono ?_; rintro e w' ⟨rfl, hw⟩; have hw2 := hw.symm; subst hw2))
  go_ret
  exact ⟨rfl, rfl⟩

theorem newS_any (w : World) : Calls Try.prog 162 #[] w fun e w' => ∃ p, e = .returned (.pointer (some ⟨p, 0, none⟩)) ∧ TwS w' w.heap.size p [] ∧ Below w.heap.size w w' := by
  have hmm := @run_makeMap Try.prog
  go_enter Try.func162, Try.ntmps162
  go_wp2
  go_ret
  refine ⟨w.heap.size + 1, rfl, ⟨.slice none 0 0, w.heap.size, ?_, by omega, Nat.le_refl _, World.ownsRow_nil _ _ _ _, (Tab.made w).alloc _⟩, ((Below.refl _ _).alloc (Nat.le_refl _) _).alloc (by simp) _⟩
  have := heap_alloc_new (w.alloc (.map #[] 0)) (.cells #[.slice none 0 0, .map (some w.heap.size)] 172)
  simpa using this

end Go.Proofs.Ytaopblgnmmhjfaa
