/- The program's two-way tables: a slice of what is noted and a map from it to its number, behind a pointer; what their methods do. What the program's own reading of a ledger comes to: the tables of its texts, or the first fault. The program's table of signatures, as the one of texts. A new signature is put into the table: the slice one longer, the map one more. What the program's own reading of the signatures comes to. What the program's own reading of a whole ledger comes to: the two tables, or its fault. -/
import Derived.Test.YtocgmgcjbmipnaaBase
import Derived.Deep.QuietTactic
import Derived.BigQuiet
import Derived.Lib.SmallJoins
import Derived.Deep.RegionHeld3
import Derived.Deep.AppendLies
import Derived.DeepKeys4
import Derived.Deep.DrawnRows
import Derived.Deep.RegionLaw
namespace Go.Proofs.Ytocgmgcjbmipnaa
open Go.RowKit Go.Maps Go.WideMaps

theorem kS : Keyed Try.prog 9 := string_keyed Try.underlying9
theorem Try.laidOut : laidOutB Try.prog = true := by kernel_rfl
theorem kG : Keyed Try.prog 71 := Keyed.of_law (deep_law_laid Try.laidOut (m := 2) (by omega) (of_decide_eq_true (by kernel_rfl)) (by kernel_rfl) (by kernel_rfl))
theorem zeroI (w : World) : (zeroValue 2).run Try.prog w = .ok (.int .i64 0) w := by kernel_rfl

/-- The map in block B tells the number of each x of l. -/
def Tab {A : Type} [DecidableEq A] (k : TypeId) (enc : A → Value) (w : World) (B : Nat) (l : List A) : Prop :=
  ∃ D : DataW Unit, w.ownsMap Try.prog k (plainElem Try.prog 2) B l.length D ∧ ∀ x kl, keyOf Try.prog k (enc x) = some kl → D.atKey kl (.lit (.int .i64 0)) = .lit (.int .i64 (num l x : Nat))

def encS (s : ByteArray) : Value := .string s
def encG (g : Int × Int) : Value := .agg #[.int .i64 g.1, .int .i64 g.2]
theorem encS_inj {a b : ByteArray} (h : encS a = encS b) : a = b := by simpa [encS] using h
theorem encG_inj {a b : Int × Int} (h : encG a = encG b) : a = b := by
  simp [encG] at h
  exact Prod.ext h.1 h.2

section
variable {A : Type} [DecidableEq A] {k : TypeId} {enc : A → Value} {w : World} {B : Nat} {l : List A}

theorem Tab.made (w : World) : Tab k enc (w.alloc (.map #[] 0)) w.heap.size ([] : List A) :=
  ⟨.map [], World.ownsMap_made _ _ _ _, fun _ _ _ => rfl⟩

theorem Tab.lt (h : Tab k enc w B l) : B < w.heap.size := by obtain ⟨D, ho, _⟩ := h; exact ho.lt

theorem Tab.kept {w' : World} {row : Option Nat} (h : Tab k enc w B l) (hg : w.grownBy w' row) (hne : some B ≠ row) : Tab k enc w' B l := by
  obtain ⟨D, ho, ha⟩ := h
  exact ⟨D, ho.kept hg hne, ha⟩

theorem Tab.setCell (h : Tab k enc w B l) {a : Addr} (ha : B ≠ a.block) (u : Value) : Tab k enc (w.setCell a u) B l := by
  obtain ⟨D, ho, hat⟩ := h
  exact ⟨D, ho.setCell ha u, hat⟩

theorem Tab.alloc (h : Tab k enc w B l) (o : Obj) : Tab k enc (w.alloc o) B l := by
  obtain ⟨D, ho, hat⟩ := h
  exact ⟨D, ho.alloc o, hat⟩

theorem Tab.drew (h : Tab k enc w B l) : Tab k enc w.drew B l := by
  obtain ⟨D, ho, hat⟩ := h
  exact ⟨D, ho, hat⟩

theorem Tab.draws (h : Tab k enc w B l) (n : Nat) : Tab k enc (w.drewN n) B l := by
  obtain ⟨D, ho, hat⟩ := h
  exact ⟨D, ho, hat⟩

theorem Tab.look (h : Tab k enc w B l) (K : Keyed Try.prog k) {t : TypeId} (ht : Try.prog.underlying t = some (.map k 2)) {x : A} {kl : Lit} (hk : keyOf Try.prog k (enc x) = some kl) :
    (Instr.lookup t (.map (some B)) (enc x) false).run Try.prog w = .ok (.int .i64 (num l x : Nat)) w := by
  obtain ⟨D, ho, hat⟩ := h
  obtain ⟨c, hrun, hc, _⟩ := ho.lookup_int K ht Try.underlying2 (zeroI _) hk
  rw [hat x kl hk] at hc
  have : (num l x : Int) = c := by simpa using hc
  rw [hrun, this]

theorem Tab.store (h : Tab k enc w B l) (K : Keyed Try.prog k) (he : ∀ {a b : A}, enc a = enc b → a = b) {t : TypeId} (ht : Try.prog.underlying t = some (.map k 2)) {x : A} {kl : Lit} (hk : keyOf Try.prog k (enc x) = some kl)
    (hx : num l x = 0) (hl : l.length ≤ 1000) {c : Int} (hc : c = l.length + 1) :
    ∃ w', (Instr.mapUpdate t (.map (some B)) (enc x) (.int .i64 c)).run Try.prog w = .ok () w' ∧ Tab k enc w' B (l ++ [x]) ∧ w.grownBy w' (some B) := by
  obtain ⟨D, ho, hat⟩ := h
  obtain ⟨w', hrun, ho', hg⟩ := ho.update K ht (by unfold maxLen; omega) hk (plainElem_int (q := .i64) Try.underlying2 (WalkArith.wf_i64 (n := c) (by omega)))
  refine ⟨w', hrun, ⟨_, by simpa using ho', fun y kl' hy => ?_⟩, hg⟩
  rw [num_snoc l x y ((num_zero l x).1 hx)]
  by_cases e : y = x
  · subst e
    rw [hk] at hy
    cases hy
    rw [atKey_put_same ho.isMap (K.key hk), if_pos rfl, hc]
    simp
  · rw [if_neg e, atKey_put_other (k := kl) (k' := kl') (fun e2 => e (he (K.inj hy (by rw [e2]; exact hk)))), hat y kl' hy]
end

/-- The table of texts behind the pointer to block p. -/
def TwS (w : World) (base p : Nat) (l : List ByteArray) : Prop :=
  ∃ iv B, w.heap[p]? = some (.cells #[iv, .map (some B)] 83 (0, 0)) ∧ base ≤ p ∧ base ≤ B ∧ w.ownsRow base 9 1 iv l.length (l.map Value.string) ∧ Tab 9 encS w B l

theorem numS_any (p B : Nat) (l : List ByteArray) (x : ByteArray) (w : World) (hx : x.size ≤ maxLen) (hM : w.cell? ⟨p, 1, none⟩ = some (.map (some B))) (hT : Tab 9 encS w B l) :
    Calls Try.prog 71 #[.pointer (some ⟨p, 0, none⟩), .string x] w fun e w' => e = .returned (.int .i64 (num l x : Nat)) ∧ w' = w := by
  have hrun := hT.look kS Try.underlying81 (x := x) (keyOf_string_mk Try.underlying9 hx)
  unfold encS at hrun
  clear hT
  go_enter Try.func71, Try.ntmps71
  go_wp2
  go_ret
  exact ⟨rfl, rfl⟩

theorem countS_any (p n cap : Nat) (a : Option Addr) (w : World) (hI : w.cell? ⟨p, 0, none⟩ = some (.slice a n cap)) :
    Calls Try.prog 36 #[.pointer (some ⟨p, 0, none⟩)] w fun e w' => e = .returned (.int .i64 n) ∧ w' = w := by
  go_enter Try.func36, Try.ntmps36
  go_wp2
  go_ret
  exact ⟨rfl, rfl⟩

/-- What the new item leaves behind the append and the store into the field: all that the table was, the slice one longer. -/
theorem addS_mid {w w1 : World} {base p B g cap : Nat} {iv : Value} {l : List ByteArray} {x : ByteArray} (hp : w.heap[p]? = some (.cells #[iv, .map (some B)] 83 (0, 0))) (hbp : base ≤ p) (hbB : base ≤ B)
    (ho : w.ownsRow base 9 1 iv l.length (l.map Value.string)) (ht : Tab 9 encS w B l)
    (ho1 : w1.ownsRow base 9 1 (.slice (some ⟨g, 0, none⟩) (l.length + 1) cap) (l.length + 1) (l.map Value.string ++ [.string x])) (hg1 : (w.alloc (.cells #[.string x] 9)).grownBy w1 iv.ownBlock) :
    iv.ownBlock ≠ some p ∧ iv.ownBlock ≠ some B ∧ w1.heap[p]? = some (.cells #[iv, .map (some B)] 83 (0, 0)) ∧ p ≠ g ∧ Tab 9 encS w1 B l ∧ p ≠ B ∧ Below base w w1 := by
  have hpl : p < w.heap.size := lt_of_block hp
  have hBl : B < w.heap.size := ht.lt
  have hne : ∀ q o, w.heap[q]? = some o → (∀ cur, o ≠ .cells cur 9 (0, 0)) → iv.ownBlock ≠ some q := by
    intro q o hq hno hiv
    rcases ho.2 with ⟨rfl, _⟩ | ⟨g', c', cur, rfl, _, hh, _⟩
    · simp [Value.ownBlock] at hiv
    · simp [Value.ownBlock] at hiv
      subst hiv
      rw [hh] at hq
      exact hno cur (by simpa using hq.symm)
  have n1 : iv.ownBlock ≠ some p := hne p _ hp (fun cur e => by simp at e)
  obtain ⟨D, hD, _⟩ := id ht
  obtain ⟨es, ck, hes, _⟩ := hD
  have n2 : iv.ownBlock ≠ some B := hne B _ hes (fun cur e => by simp at e)
  have a1 : (w.alloc (.cells #[.string x] 9)).heap[p]? = some (.cells #[iv, .map (some B)] 83 (0, 0)) := (Below.heap_alloc w _ p hpl).trans hp
  have hp1 := (hg1.block p (by simp; omega) (Ne.symm n1)).trans a1
  have hgp : p ≠ g := by
    rintro rfl
    rcases ho1.2 with ⟨h, _⟩ | ⟨g', c', cur, h, _, hh, _⟩
    · cases h
    · simp at h
      rw [← h.1, hp1] at hh
      simp at hh
  have hpB : p ≠ B := by rintro rfl; rw [hp] at hes; simp at hes
  refine ⟨n1, n2, hp1, hgp, (ht.alloc _).kept hg1 (Ne.symm n2), hpB, ?_⟩
  refine ((Below.refl base w).alloc (by omega) _).grown hg1 (by simp; omega) (fun k hk => ?_)
  exact (ho.lt k hk).1

set_option maxRecDepth 20000 in
set_option maxHeartbeats 400000 in
theorem addS_new (p base : Nat) (l : List ByteArray) (x : ByteArray) (w : World) (hl : l.length ≤ 100) (hx : x.size ≤ maxLen) (hn : num l x = 0) (h : TwS w base p l) :
    Calls Try.prog 54 #[.pointer (some ⟨p, 0, none⟩), .string x] w fun e w' => e = .returned (.bool true) ∧ TwS w' base p (l ++ [x]) ∧ Below base w w' := by
  obtain ⟨iv, B, hp, hbp, hbB, ho, ht⟩ := h
  obtain ⟨i0, hi, hz0, hz1, hz2⟩ := info_parts Try.infoStr
  have hpl : p < w.heap.size := lt_of_block hp
  have c0 : w.cell? ⟨p, 0, none⟩ = some iv := by simp [World.cell?, hp]
  have c1 : w.cell? ⟨p, 1, none⟩ = some (.map (some B)) := by simp [World.cell?, hp]
  obtain ⟨ia, ic, rfl⟩ : ∃ ia ic, iv = .slice ia l.length ic := by
    rcases ho.2 with ⟨h1, h2⟩ | ⟨g, cap, cur, h1, _⟩
    · exact ⟨none, 0, by rw [h2]; exact h1⟩
    · exact ⟨_, _, h1⟩
  have HN : Hid (num l x = 0) := hn
  have hnum := numS_any p B l x w hx c1 ht
  rw [hn] at hnum
  clear hn
  go_enter Try.func54, Try.ntmps54
  go_wp2_with (first
    | (go_at_call 71; refine hnum.mono ?_; rintro e w' ⟨rfl, hw⟩; have hw2 := hw.symm; subst hw2)
    | (at_builtin; go_must (refine wpList_append_lies _ (by rfl) _ _ 22 (by rfl) base 9 i0 (.string ByteArray.empty) 1 16 Try.underlying22 hi hz0 hz1 hz2 rfl (by omega) (.slice ia l.length ic) l.length (l.map Value.string) (by rfl) (ho.alloc _) ⟨w.heap.size, 0, none⟩ 1 1 [.string x] (by rfl) (by rfl) ?c1 ?c2 (by omega) ?c3 ?c4 ?c5 (w.heap.size + 1) ?c6 ?_)))
  case c1 =>
    intro j u hj
    match j, hj with
    | 0, hj => simp at hj; subst hj; simp [Addr.add]
  case c2 => intro u hu; simp at hu; subst hu; rfl
  case c3 => unfold maxLen; omega
  case c4 => omega
  case c5 => simp; omega
  case c6 => simp
  intro g cap w1 ho1 hg1 hat hlt
  obtain ⟨n1, n2, hp1, hgp, ht1, hpB, hb1⟩ := addS_mid hp hbp hbB ho ht ho1 hg1
  have k0 : w1.cell? ⟨p, 0, none⟩ = some (.slice ia l.length ic) := by simp [World.cell?, hp1]
  have k1 : w1.cell? ⟨p, 1, none⟩ = some (.map (some B)) := by simp [World.cell?, hp1]
  have f0 : w1.frozen? ⟨p, 0, none⟩ = false := Joins.unfrozen_of_block hp1 0
  have ht2 := ht1.setCell (a := ⟨p, 0, none⟩) (Ne.symm hpB) (.slice (some ⟨g, 0, none⟩) (l.length + 1) cap)
  have hp2 : (w1.setCell ⟨p, 0, none⟩ (.slice (some ⟨g, 0, none⟩) (l.length + 1) cap)).heap[p]? = some (.cells #[.slice (some ⟨g, 0, none⟩) (l.length + 1) cap, .map (some B)] 83 (0, 0)) := by
    have := Joins.block_setCell (i := 0) hp1 (.slice (some ⟨g, 0, none⟩) (l.length + 1) cap)
    simpa using this
  have j0 : (w1.setCell ⟨p, 0, none⟩ (.slice (some ⟨g, 0, none⟩) (l.length + 1) cap)).cell? ⟨p, 0, none⟩ = some (.slice (some ⟨g, 0, none⟩) (l.length + 1) cap) := by unfold World.cell?; rw [hp2]; rfl
  have j1 : (w1.setCell ⟨p, 0, none⟩ (.slice (some ⟨g, 0, none⟩) (l.length + 1) cap)).cell? ⟨p, 1, none⟩ = some (.map (some B)) := by unfold World.cell?; rw [hp2]; rfl
  have hkey := keyOf_string_mk (P := Try.prog) Try.underlying9 hx
  obtain ⟨w3, hrun, ht3, hg3⟩ := (ht2.drew).store kS encS_inj Try.underlying81 (x := x) hkey HN.out (by omega) (c := (l.length : Int) + 1) rfl
  unfold encS at hrun
  have hp3 : w3.heap[p]? = some (.cells #[.slice (some ⟨g, 0, none⟩) (l.length + 1) cap, .map (some B)] 83 (0, 0)) := (hg3.block p (lt_of_block (w := (w1.setCell ⟨p, 0, none⟩ (.slice (some ⟨g, 0, none⟩) (l.length + 1) cap)).drew) hp2) (by simpa using hpB)).trans hp2
  have m0 : w3.cell? ⟨p, 0, none⟩ = some (.slice (some ⟨g, 0, none⟩) (l.length + 1) cap) := by unfold World.cell?; rw [hp3]; rfl
  have m1 : w3.cell? ⟨p, 1, none⟩ = some (.map (some B)) := by unfold World.cell?; rw [hp3]; rfl
  have HT3 : Hid (TwS w3 base p (l ++ [x]) ∧ Below base w w3) := by
    have hgB : g ≠ B := by
      rintro rfl
      obtain ⟨D, ⟨es, ck, hes, _⟩, _⟩ := ht1
      rcases ho1.2 with ⟨h, _⟩ | ⟨g', c', cur, h, _, hh, _⟩
      · cases h
      · simp at h
        rw [← h.1, hes] at hh
        simp at hh
    have r1 := (ownsRow_setCell_other ho1 (a := ⟨p, 0, none⟩) (by simpa [Value.ownBlock] using Ne.symm hgp) (.slice (some ⟨g, 0, none⟩) (l.length + 1) cap)).drew.kept hg3 (by simp [Value.ownBlock]; exact hgB)
    refine ⟨⟨_, B, hp3, hbp, hbB, by simpa using r1, ht3⟩, ?_⟩
    exact (hb1.setCell (p := ⟨p, 0, none⟩) hbp _).drew.grown hg3 (Nat.le_trans hbp (Nat.le_of_lt (lt_of_block hp2))) (fun k h => by cases h; exact hbB)
  clear ht2 ht1 ht3 hg3 hp3 hp2
  have HO1 : Hid (w1.ownsRow base 9 1 (.slice (some ⟨g, 0, none⟩) (l.length + 1) cap) (l.length + 1) (l.map Value.string ++ [.string x])) := ho1
  clear ho1 hg1 hat ho ht hnum hkey hi hz0 hz1 hz2
  go_wp2
  go_region_held3 (fun w' => w'.cell? ⟨p, 0, none⟩ = some (.slice (some ⟨g, 0, none⟩) (l.length + 1) cap) ∧ w'.cell? ⟨p, 1, none⟩ = some (.map (some B))) (go_keep)
    (first | (go_at_call 36; refine (countS_any p (l.length + 1) cap (some ⟨g, 0, none⟩) _ ?_).mono ?_; (simp [*]); rintro e w' ⟨rfl, rfl⟩))
  go_wp2
  go_ret
  exact ⟨rfl, HT3.out⟩

theorem addS_old (p base : Nat) (l : List ByteArray) (x : ByteArray) (w : World) (hx : x.size ≤ maxLen) (hn : ¬ num l x = 0) (h : TwS w base p l) :
    Calls Try.prog 54 #[.pointer (some ⟨p, 0, none⟩), .string x] w fun e w' => e = .returned (.bool false) ∧ w' = w := by
  obtain ⟨iv, B, hp, hbp, hbB, ho, ht⟩ := h
  have c1 : w.cell? ⟨p, 1, none⟩ = some (.map (some B)) := by simp [World.cell?, hp]
  obtain ⟨c, hc⟩ : ∃ c, c = num l x := ⟨_, rfl⟩
  have hnum := numS_any p B l x w hx c1 ht
  rw [← hc] at hnum hn
  have hcz : (c : Int) ≠ 0 := by omega
  clear hc ho ht
  go_enter Try.func54, Try.ntmps54
  go_wp2_with (first | (go_at_call 71; refine hnum.mono ?_; rintro e w' ⟨rfl, hw⟩; have hw2 := hw.symm; subst hw2))
  go_ret
  exact ⟨rfl, rfl⟩

theorem newS_any (w : World) : Calls Try.prog 52 #[] w fun e w' => ∃ p, e = .returned (.pointer (some ⟨p, 0, none⟩)) ∧ TwS w' w.heap.size p [] ∧ Below w.heap.size w w' := by
  have hmm := @run_makeMap Try.prog
  go_enter Try.func52, Try.ntmps52
  go_wp2
  go_ret
  refine ⟨w.heap.size + 1, rfl, ⟨.slice none 0 0, w.heap.size, ?_, by omega, Nat.le_refl _, World.ownsRow_nil _ _ _ _, (Tab.made w).alloc _⟩, ((Below.refl _ _).alloc (Nat.le_refl _) _).alloc (by simp) _⟩
  have := heap_alloc_new (w.alloc (.map #[] 0)) (.cells #[.slice none 0 0, .map (some w.heap.size)] 83)
  simpa using this

end Go.Proofs.Ytocgmgcjbmipnaa

namespace Go.Proofs.Ytocgmgcjbmipnaa
open Go.RowKit Go.Maps Go.WideMaps

theorem isWithin_any (v lo hi : Int) (w : World) : Calls Try.prog 57 #[.int .i64 v, .int .i64 lo, .int .i64 hi] w fun e w' => e = .returned (.bool (inB v lo hi)) ∧ w' = w := by
  by_cases h1 : lo ≤ v
  · by_cases h2 : v ≤ hi
    · have hb : inB v lo hi = true := by simp [inB, h1, h2]
      rw [hb]
      go_enter Try.func57, Try.ntmps57
      go_wp2
      go_ret
      exact ⟨rfl, rfl⟩
    · have hb : inB v lo hi = false := by simp [inB, h2]
      rw [hb]
      go_enter Try.func57, Try.ntmps57
      go_wp2
      go_ret
      exact ⟨rfl, rfl⟩
  · have hb : inB v lo hi = false := by simp [inB, h1]
    rw [hb]
    go_enter Try.func57, Try.ntmps57
    go_wp2
    go_ret
    exact ⟨rfl, rfl⟩

theorem isKey_any (v : Int) (w : World) : Calls Try.prog 56 #[.int .i64 v] w fun e w' => e = .returned (.bool (inB v 1 999)) ∧ w' = w := by
  go_enter Try.func56, Try.ntmps56
  go_wp2_with (go_at_call 57; refine (isWithin_any _ _ _ _).mono ?_; rintro e w' ⟨rfl, rfl⟩)
  go_ret
  exact ⟨rfl, rfl⟩

theorem isTextLength_any (s : ByteArray) (w : World) : Calls Try.prog 53 #[.string s] w fun e w' => e = .returned (.bool (inB s.size 1 300)) ∧ w' = w := by
  go_enter Try.func53, Try.ntmps53
  go_wp2_with (go_at_call 57; refine (isWithin_any _ _ _ _).mono ?_; rintro e w' ⟨rfl, rfl⟩)
  go_ret
  exact ⟨rfl, rfl⟩

/-- What reading the texts leaves. -/
def RT (ss : List ByteArray) (w w' : World) (e : Ending) : Prop :=
  Below w.heap.size w w' ∧ ((tgo [] ss = 0 ∧ ∃ p, e = .returned (.tuple #[.pointer (some ⟨p, 0, none⟩), .int .i64 0]) ∧ TwS w' w.heap.size p ss) ∨
    (tgo [] ss ≠ 0 ∧ e = .returned (.tuple #[.pointer none, .int .i64 (tgo [] ss)])))

set_option maxHeartbeats 1000000 in
theorem readTexts_any (a : Option Addr) (n cap : Nat) (ss : List ByteArray) (w : World) (hl : n ≤ 60) (hz : ∀ j, (ss.getD j E0).size ≤ maxLen) (hs : SAt w a n ss) :
    Calls Try.prog 34 #[.slice a n cap] w fun e w' => RT ss w w' e := by
  have HN : Hid (ss.length = n) := hs.1
  have HSS : Hid (SAt w a n ss) := hs
  clear hs
  go_enter Try.func34, Try.ntmps34
  go_wp2_with (first | (go_at_call 52; refine (newS_any _).mono ?_; rintro e w1 ⟨p, rfl, htw1, hb1⟩))
  go_loopw [10] (fun i wr => ∃ k : Nat, k ≤ n ∧ i = .int .i64 k ∧ Hid (tgo [] ss = tAt ss k) ∧ TwS wr w.heap.size p (ss.take k) ∧ Below w.heap.size w wr) (fun i _ => n - (intOf i).toNat)
  case atStart => exact ⟨0, Nat.zero_le _, rfl, (tAt_zero ss).symm, htw1, hb1⟩
  case round =>
    obtain ⟨k, hk, rfl, hinv, htw, hbel⟩ := hrel
    clear htw1 hb1
    by_cases hlt : k < n
    · rcases HSS.out.2 with h0 | ⟨b, off, ha, hb, hc⟩
      · omega
      subst ha
      obtain ⟨s, hs⟩ : ∃ s, s = ss.getD k E0 := ⟨_, rfl⟩
      have hcx := (hbel.cell (p := ⟨b, off + k, none⟩) hb).trans (hc k hlt)
      have hsz := hz k
      rw [← hs] at hcx hsz
      have HS : Hid (s = ss.getD k E0) := hs
      clear hs hc hz
      by_cases hs1 : inB s.size 1 300 = true
      · have hok : ¬ (s.size < 1 ∨ 300 < s.size) := by have := inB_true.1 hs1; omega
        have HOK : Hid (¬ (s.size < 1 ∨ 300 < s.size)) := hok
        clear hok
        by_cases hc0 : num (ss.take k) s = 0
        · have hadd := addS_new p w.heap.size (ss.take k) s wr (by simp; omega) hsz hc0 htw
          have HC0 : Hid (num (ss.take k) s = 0) := hc0
          clear hc0 htw
          go_wp2_with (first
            | (go_at_call 53; refine (isTextLength_any _ _).mono ?_; rintro e w' ⟨rfl, hw⟩; have hw2 := hw.symm; subst hw2)
            | (go_at_call 54; refine hadd.mono ?_; rintro e w2 ⟨rfl, htw2, hb2⟩))
          go_roundw
          case rel =>
            have e1 : ss.take (k + 1) = ss.take k ++ [s] := by rw [take_snoc ss E0 k (by rw [HN.out]; exact hlt), HS.out]
            exact ⟨k + 1, by omega, by go_num, t_next HN.out hlt HS.out HOK.out HC0.out hinv.out, by rw [e1]; exact htw2, hbel.trans hb2⟩
          case measure => simp [intOf]; omega
        · have hadd := addS_old p w.heap.size (ss.take k) s wr hsz hc0 htw
          have HC0 : Hid (¬ num (ss.take k) s = 0) := hc0
          clear hc0 htw
          go_wp2_with (first
            | (go_at_call 53; refine (isTextLength_any _ _).mono ?_; rintro e w' ⟨rfl, hw⟩; have hw2 := hw.symm; subst hw2)
            | (go_at_call 54; refine hadd.mono ?_; rintro e w2 ⟨rfl, hw⟩; have hw2 := hw.symm; subst hw2))
          go_ret2
          have e7 := t_taken HN.out hlt HS.out HOK.out HC0.out hinv.out
          exact ⟨hbel, .inr ⟨by rw [e7]; decide, by rw [e7]; rfl⟩⟩
      · have hs1' : inB s.size 1 300 = false := by simpa using hs1
        have hok : s.size < 1 ∨ 300 < s.size := by have := inB_false.1 hs1'; omega
        have HOK : Hid (s.size < 1 ∨ 300 < s.size) := hok
        clear hok hs1 htw
        go_wp2_with (first
          | (go_at_call 53; refine (isTextLength_any _ _).mono ?_; rintro e w' ⟨rfl, hw⟩; have hw2 := hw.symm; subst hw2))
        go_ret2
        have e7 := t_short HN.out hlt HS.out HOK.out hinv.out
        exact ⟨hbel, .inr ⟨by rw [e7]; decide, by rw [e7]; rfl⟩⟩
    · go_wp2
      go_ret2
      refine ⟨hbel, .inl ⟨t_done HN.out hk hlt hinv.out, p, rfl, ?_⟩⟩
      rwa [List.take_of_length_le (by rw [HN.out]; omega)] at htw

end Go.Proofs.Ytocgmgcjbmipnaa

namespace Go.Proofs.Ytocgmgcjbmipnaa
open Go.RowKit Go.Maps Go.WideMaps

theorem Try.cellsSig : Try.prog.cellsOf 71 = 2 := by kernel_rfl
theorem Try.cellsI64 : Try.prog.cellsOf 2 = 1 := by kernel_rfl
theorem Try.someTypes : ∃ m, Try.prog.types.size = m + 1 := ⟨Try.prog.types.size - 1, by have : 0 < Try.prog.types.size := of_decide_eq_true (by kernel_rfl); omega⟩
theorem Try.cutSig : (Try.prog.cutTypes.any (·.2 == 71)) = false := by kernel_rfl
theorem Try.keyAtSig (m : Nat) : Try.prog.keyTypeAt (m + 2) 71 = true := by
  have h2 : Try.prog.keyTypeAt (m + 1) 2 = true := by unfold Program.keyTypeAt; rw [Try.underlying2]
  unfold Program.keyTypeAt
  rw [Try.underlying71]
  simp only [Try.cutSig, Try.stoodInHeld71]
  simp [h2]
theorem Try.keySig : Try.prog.keyType 71 = true := by
  obtain ⟨m, hm⟩ := Try.someTypes
  unfold Program.keyType
  rw [hm]
  exact Try.keyAtSig m

theorem Try.litI64 (m : Nat) {x : Int} (hx : (Lit.int .i64 x).wf = true) : Try.prog.keyLits (m + 1) 2 [.int .i64 x] = some [.int .i64 x] := by
  unfold Program.keyLits
  rw [Try.underlying2]
  simp [hx]

theorem Try.litsSig (m : Nat) {p q : Int} (hp : (Lit.int .i64 p).wf = true) (hq : (Lit.int .i64 q).wf = true) : Try.prog.keyLits (m + 2) 71 [.int .i64 p, .int .i64 q] = some [.int .i64 p, .int .i64 q] := by
  unfold Program.keyLits
  rw [Try.underlying71]
  simp [Try.cellsSig, Try.cellsI64, Try.litI64 m hp, Try.litI64 m hq]

theorem keyG {p q : Int} (hp : (Lit.int .i64 p).wf = true) (hq : (Lit.int .i64 q).wf = true) : ∃ kl, keyOf Try.prog 71 (.agg #[.int .i64 p, .int .i64 q]) = some kl := by
  obtain ⟨m, hm⟩ := Try.someTypes
  refine ⟨.string (keyBytes [.int .i64 p, .int .i64 q]), ?_⟩
  have hf : (Value.agg #[.int .i64 p, .int .i64 q]).formed Try.prog 71 = true := by simp [Value.formed, Try.underlying71, Try.cellsSig]
  unfold keyOf
  rw [Try.underlying71]
  simp only [Try.keySig, hf, hm, Bool.and_self, if_true]
  have hc : (Value.agg #[.int .i64 p, .int .i64 q]).cells.toList = [.int .i64 p, .int .i64 q] := rfl
  rw [hc, Try.litsSig m hp hq]
  rfl

/-- The table of signatures behind the pointer to block p. -/
def TwG (w : World) (base p : Nat) (l : List (Int × Int)) : Prop :=
  ∃ iv B, w.heap[p]? = some (.cells #[iv, .map (some B)] 86 (0, 0)) ∧ base ≤ p ∧ base ≤ B ∧ w.ownsRow base 71 2 iv l.length (gcells l) ∧ Tab 71 encG w B l

theorem grown_of_below {w w' : World} (h : Below w.heap.size w w') : w.grownBy w' none := ⟨h.os, h.tape, h.output, h.size, fun k hk _ => h.block k hk⟩

theorem TwS.below {w w' : World} {base p : Nat} {l : List ByteArray} (h : TwS w base p l) (hb : Below w.heap.size w w') : TwS w' base p l := by
  obtain ⟨iv, B, hp, hbp, hbB, ho, ht⟩ := h
  exact ⟨iv, B, (hb.block p (lt_of_block hp)).trans hp, hbp, hbB, ho.kept (grown_of_below hb) (by cases iv.ownBlock <;> simp), ht.kept (grown_of_below hb) (by simp)⟩

theorem TwG.below {w w' : World} {base p : Nat} {l : List (Int × Int)} (h : TwG w base p l) (hb : Below w.heap.size w w') : TwG w' base p l := by
  obtain ⟨iv, B, hp, hbp, hbB, ho, ht⟩ := h
  exact ⟨iv, B, (hb.block p (lt_of_block hp)).trans hp, hbp, hbB, ho.kept (grown_of_below hb) (by cases iv.ownBlock <;> simp), ht.kept (grown_of_below hb) (by simp)⟩

theorem numG_any (p B : Nat) (l : List (Int × Int)) (a b : Int) (w : World) (ha : (Lit.int .i64 a).wf = true) (hb : (Lit.int .i64 b).wf = true) (hpl : p < w.heap.size) (hM : w.cell? ⟨p, 1, none⟩ = some (.map (some B))) (hT : Tab 71 encG w B l) :
    Calls Try.prog 72 #[.pointer (some ⟨p, 0, none⟩), .agg #[.int .i64 a, .int .i64 b]] w fun e w' => e = .returned (.int .i64 (num l (a, b) : Nat)) ∧ Below w.heap.size w w' := by
  obtain ⟨kl, hk⟩ := keyG ha hb
  have hrun : ∀ j, (Instr.lookup 84 (.map (some B)) (.agg #[.int .i64 a, .int .i64 b]) false).run Try.prog ((w.alloc (.cells #[.int .i64 a, .int .i64 b] 71)).drewN j) = .ok (.int .i64 (num l (a, b) : Nat)) ((w.alloc (.cells #[.int .i64 a, .int .i64 b] 71)).drewN j) :=
    fun j => ((hT.alloc _).draws j).look kG Try.underlying84 (x := (a, b)) hk
  clear hT hk ha hb
  obtain ⟨c, hc⟩ : ∃ c, c = num l (a, b) := ⟨_, rfl⟩
  rw [← hc] at hrun ⊢
  clear hc
  go_enter Try.func72, Try.ntmps72
  go_wp2
  go_quiet (fail)
  go_wp2
  go_ret
  exact ⟨rfl, ((Below.refl _ _).alloc (Nat.le_refl _) _).trans (Joins.below_draws _ _ _)⟩

theorem countG_any (p n cap : Nat) (a : Option Addr) (w : World) (hI : w.cell? ⟨p, 0, none⟩ = some (.slice a n cap)) :
    Calls Try.prog 73 #[.pointer (some ⟨p, 0, none⟩)] w fun e w' => e = .returned (.int .i64 n) ∧ w' = w := by
  go_enter Try.func73, Try.ntmps73
  go_wp2
  go_ret
  exact ⟨rfl, rfl⟩

theorem newG_any (w : World) : Calls Try.prog 55 #[] w fun e w' => ∃ p, e = .returned (.pointer (some ⟨p, 0, none⟩)) ∧ TwG w' w.heap.size p [] ∧ Below w.heap.size w w' := by
  have hmm := @run_makeMap Try.prog
  go_enter Try.func55, Try.ntmps55
  go_wp2
  go_ret
  refine ⟨w.heap.size + 1, rfl, ⟨.slice none 0 0, w.heap.size, ?_, by omega, Nat.le_refl _, World.ownsRow_nil _ _ _ _, (Tab.made w).alloc _⟩, ((Below.refl _ _).alloc (Nat.le_refl _) _).alloc (by simp) _⟩
  have := heap_alloc_new (w.alloc (.map #[] 0)) (.cells #[.slice none 0 0, .map (some w.heap.size)] 86)
  simpa using this

theorem addG_old (p base : Nat) (l : List (Int × Int)) (a b : Int) (w : World) (ha : (Lit.int .i64 a).wf = true) (hb : (Lit.int .i64 b).wf = true) (hn : ¬ num l (a, b) = 0) (h : TwG w base p l) :
    Calls Try.prog 58 #[.pointer (some ⟨p, 0, none⟩), .agg #[.int .i64 a, .int .i64 b]] w fun e w' => e = .returned (.bool false) ∧ Below w.heap.size w w' := by
  have hbx : Below w.heap.size w (w.alloc (.cells #[.int .i64 a, .int .i64 b] 71)) := (Below.refl _ _).alloc (Nat.le_refl _) _
  obtain ⟨iv, B, hp, hbp, hbB, ho, ht⟩ := h.below hbx
  have hpl := lt_of_block hp
  have c1 : (w.alloc (.cells #[.int .i64 a, .int .i64 b] 71)).cell? ⟨p, 1, none⟩ = some (.map (some B)) := by unfold World.cell?; rw [hp]; rfl
  obtain ⟨c, hc⟩ : ∃ c, c = num l (a, b) := ⟨_, rfl⟩
  have hnum := numG_any p B l a b _ ha hb hpl c1 ht
  rw [← hc] at hnum hn
  have hcz : (c : Int) ≠ 0 := by omega
  clear hc ho ht h
  go_enter Try.func58, Try.ntmps58
  go_wp2_with (first | (go_at_call 72; refine hnum.mono ?_; rintro e w2 ⟨rfl, hb2⟩))
  go_ret
  exact ⟨rfl, hbx.trans (hb2.mono (by simp))⟩

theorem addG_mid {w w1 : World} {base p B g cap : Nat} {iv : Value} {l : List (Int × Int)} {x : Int × Int} {o : Obj} (hp : w.heap[p]? = some (.cells #[iv, .map (some B)] 86 (0, 0))) (hbp : base ≤ p) (hbB : base ≤ B)
    (ho : w.ownsRow base 71 2 iv l.length (gcells l)) (ht : Tab 71 encG w B l)
    (ho1 : w1.ownsRow base 71 2 (.slice (some ⟨g, 0, none⟩) (l.length + 1) cap) (l.length + 1) (gcells l ++ [.int .i64 x.1, .int .i64 x.2])) (hg1 : (w.alloc o).grownBy w1 iv.ownBlock) :
    iv.ownBlock ≠ some p ∧ iv.ownBlock ≠ some B ∧ w1.heap[p]? = some (.cells #[iv, .map (some B)] 86 (0, 0)) ∧ p ≠ g ∧ Tab 71 encG w1 B l ∧ p ≠ B ∧ Below base w w1 := by
  have hpl : p < w.heap.size := lt_of_block hp
  have hBl : B < w.heap.size := ht.lt
  have hne : ∀ q o, w.heap[q]? = some o → (∀ cur, o ≠ .cells cur 71 (0, 0)) → iv.ownBlock ≠ some q := by
    intro q o hq hno hiv
    rcases ho.2 with ⟨rfl, _⟩ | ⟨g', c', cur, rfl, _, hh, _⟩
    · simp [Value.ownBlock] at hiv
    · simp [Value.ownBlock] at hiv
      subst hiv
      rw [hh] at hq
      exact hno cur (by simpa using hq.symm)
  have n1 : iv.ownBlock ≠ some p := hne p _ hp (fun cur e => by simp at e)
  obtain ⟨D, hD, _⟩ := id ht
  obtain ⟨es, ck, hes, _⟩ := hD
  have n2 : iv.ownBlock ≠ some B := hne B _ hes (fun cur e => by simp at e)
  have a1 : (w.alloc o).heap[p]? = some (.cells #[iv, .map (some B)] 86 (0, 0)) := (Below.heap_alloc w _ p hpl).trans hp
  have hp1 := (hg1.block p (by simp; omega) (Ne.symm n1)).trans a1
  have hgp : p ≠ g := by
    rintro rfl
    rcases ho1.2 with ⟨h, _⟩ | ⟨g', c', cur, h, _, hh, _⟩
    · cases h
    · simp at h
      rw [← h.1, hp1] at hh
      simp at hh
  have hpB : p ≠ B := by rintro rfl; rw [hp] at hes; simp at hes
  refine ⟨n1, n2, hp1, hgp, (ht.alloc _).kept hg1 (Ne.symm n2), hpB, ?_⟩
  refine ((Below.refl base w).alloc (by omega) _).grown hg1 (by simp; omega) (fun k hk => ?_)
  exact (ho.lt k hk).1

end Go.Proofs.Ytocgmgcjbmipnaa

namespace Go.Proofs.Ytocgmgcjbmipnaa
open Go.RowKit Go.Maps Go.WideMaps
attribute [local go_sem ↓] Go.wp_at_zero Go.wp_at_succ

theorem news2 {W : World} {H : Nat} {a b : Int} {t : TypeId} (h : W.heap[H]? = some (.cells #[.int .i64 a, .int .i64 b] t (0, 0))) : ∀ j u, [Value.int .i64 a, .int .i64 b][j]? = some u → W.cell? ((⟨H, 0, none⟩ : Addr).add j) = some u := by
  intro j u hj
  match j, hj with
  | 0, hj => simp at hj; subst hj; simp [Addr.add, World.cell?, h]
  | 1, hj => simp at hj; subst hj; simp [Addr.add, World.cell?, h]
theorem one2 {a b : Int} : ∀ u ∈ [Value.int .i64 a, .int .i64 b], u.oneCell' = true := by
  intro u hu
  simp at hu
  rcases hu with rfl | rfl <;> rfl

/-- What is known of the world behind the append. -/
theorem addG_facts {w w1 : World} {base p B g cap b0 : Nat} {ia : Option Addr} {ic : Nat} {l : List (Int × Int)} {x : Int × Int} {o : Obj} (hp : w.heap[p]? = some (.cells #[.slice ia l.length ic, .map (some B)] 86 (0, 0))) (hbp : base ≤ p) (hbB : base ≤ B)
    (ho : w.ownsRow base 71 2 (.slice ia l.length ic) l.length (gcells l)) (ht : Tab 71 encG w B l) (hbox : w.heap[b0]? = some (.cells #[.int .i64 x.1, .int .i64 x.2] 71 (0, 0))) (hnb : Value.ownBlock (.slice ia l.length ic) ≠ some b0)
    (ho1 : w1.ownsRow base 71 2 (.slice (some ⟨g, 0, none⟩) (l.length + 1) cap) (l.length + 1) (gcells l ++ [.int .i64 x.1, .int .i64 x.2])) (hg1 : (w.alloc o).drew.grownBy w1 (Value.ownBlock (.slice ia l.length ic))) :
    w1.cell? ⟨p, 0, none⟩ = some (.slice ia l.length ic) ∧ w1.frozen? ⟨p, 0, none⟩ = false ∧ w1.cell? ⟨b0, 0, none⟩ = some (.int .i64 x.1) ∧ w1.cell? ⟨b0, 1, none⟩ = some (.int .i64 x.2) ∧
      Hid (w1.heap[p]? = some (.cells #[.slice ia l.length ic, .map (some B)] 86 (0, 0)) ∧ p ≠ g ∧ Tab 71 encG w1 B l ∧ p ≠ B ∧ Below base w w1 ∧ w1.heap[b0]? = some (.cells #[.int .i64 x.1, .int .i64 x.2] 71 (0, 0)) ∧
        w1.ownsRow base 71 2 (.slice (some ⟨g, 0, none⟩) (l.length + 1) cap) (l.length + 1) (gcells l ++ [.int .i64 x.1, .int .i64 x.2])) := by
  have hg2 : (w.alloc o).grownBy w1 (Value.ownBlock (.slice ia l.length ic)) := ⟨hg1.os, hg1.tape, hg1.output, hg1.size, hg1.block⟩
  obtain ⟨n1, n2, hp1, hgp, ht1, hpB, hb1⟩ := addG_mid hp hbp hbB ho ht ho1 hg2
  have hbl := lt_of_block hbox
  have hbx1 : w1.heap[b0]? = some (.cells #[.int .i64 x.1, .int .i64 x.2] 71 (0, 0)) := (hg2.block b0 (by simp; omega) (Ne.symm hnb)).trans ((Below.heap_alloc w _ b0 hbl).trans hbox)
  exact ⟨by unfold World.cell?; rw [hp1]; rfl, Joins.unfrozen_of_block hp1 0, by unfold World.cell?; rw [hbx1]; rfl, by unfold World.cell?; rw [hbx1]; rfl, hp1, hgp, ht1, hpB, hb1, hbx1, ho1⟩

/-- From the store into the field to the store into the map. -/
theorem addG_end {w w1 : World} {base p B g cap b0 ic : Nat} {ia : Option Addr} {l : List (Int × Int)} {a b : Int} (hl : l.length ≤ 200) (ha : (Lit.int .i64 a).wf = true) (hb : (Lit.int .i64 b).wf = true) (hn : num l (a, b) = 0) (hbp : base ≤ p) (hbB : base ≤ B)
    (h : w1.heap[p]? = some (.cells #[.slice ia l.length ic, .map (some B)] 86 (0, 0)) ∧ p ≠ g ∧ Tab 71 encG w1 B l ∧ p ≠ B ∧ Below base w w1 ∧ w1.heap[b0]? = some (.cells #[.int .i64 a, .int .i64 b] 71 (0, 0)) ∧
        w1.ownsRow base 71 2 (.slice (some ⟨g, 0, none⟩) (l.length + 1) cap) (l.length + 1) (gcells l ++ [.int .i64 a, .int .i64 b])) :
    ∃ w5, (Instr.mapUpdate 84 (.map (some B)) (.agg #[.int .i64 a, .int .i64 b]) (.int .i64 ((l.length : Int) + 1))).run Try.prog (w1.setCell ⟨p, 0, none⟩ (.slice (some ⟨g, 0, none⟩) (l.length + 1) cap)).drew = .ok () w5 ∧
      (w1.setCell ⟨p, 0, none⟩ (.slice (some ⟨g, 0, none⟩) (l.length + 1) cap)).cell? ⟨p, 0, none⟩ = some (.slice (some ⟨g, 0, none⟩) (l.length + 1) cap) ∧
      (w1.setCell ⟨p, 0, none⟩ (.slice (some ⟨g, 0, none⟩) (l.length + 1) cap)).cell? ⟨p, 1, none⟩ = some (.map (some B)) ∧
      (w1.setCell ⟨p, 0, none⟩ (.slice (some ⟨g, 0, none⟩) (l.length + 1) cap)).cell? ⟨b0, 0, none⟩ = some (.int .i64 a) ∧
      (w1.setCell ⟨p, 0, none⟩ (.slice (some ⟨g, 0, none⟩) (l.length + 1) cap)).cell? ⟨b0, 1, none⟩ = some (.int .i64 b) ∧
      w5.cell? ⟨p, 0, none⟩ = some (.slice (some ⟨g, 0, none⟩) (l.length + 1) cap) ∧ w5.cell? ⟨p, 1, none⟩ = some (.map (some B)) ∧ w5.cell? ⟨b0, 0, none⟩ = some (.int .i64 a) ∧ w5.cell? ⟨b0, 1, none⟩ = some (.int .i64 b) ∧
      Hid (TwG w5 base p (l ++ [(a, b)]) ∧ Below base w w5) := by
  obtain ⟨hp1, hgp, ht1, hpB, hb1, hbx1, ho1⟩ := h
  obtain ⟨kl, hk⟩ := keyG ha hb
  have hpb : p ≠ b0 := by rintro rfl; rw [hp1] at hbx1; simp at hbx1
  have hBb : B ≠ b0 := by
    rintro rfl
    obtain ⟨D, ⟨es, ck, hes, _⟩, _⟩ := ht1
    rw [hes] at hbx1; simp at hbx1
  have hgB : g ≠ B := by
    rintro rfl
    obtain ⟨D, ⟨es, ck, hes, _⟩, _⟩ := ht1
    rcases ho1.2 with ⟨h, _⟩ | ⟨g', c', cur, h, _, hh, _⟩
    · cases h
    · simp at h
      rw [← h.1, hes] at hh
      simp at hh
  have hp2 : (w1.setCell ⟨p, 0, none⟩ (.slice (some ⟨g, 0, none⟩) (l.length + 1) cap)).heap[p]? = some (.cells #[.slice (some ⟨g, 0, none⟩) (l.length + 1) cap, .map (some B)] 86 (0, 0)) := by
    have := Joins.block_setCell (i := 0) hp1 (.slice (some ⟨g, 0, none⟩) (l.length + 1) cap)
    simpa using this
  have hb2 : (w1.setCell ⟨p, 0, none⟩ (.slice (some ⟨g, 0, none⟩) (l.length + 1) cap)).heap[b0]? = some (.cells #[.int .i64 a, .int .i64 b] 71 (0, 0)) := (Below.heap_setCell w1 ⟨p, 0, none⟩ _ b0 (Ne.symm hpb)).trans hbx1
  have ht2 := ht1.setCell (a := ⟨p, 0, none⟩) (Ne.symm hpB) (.slice (some ⟨g, 0, none⟩) (l.length + 1) cap)
  obtain ⟨w5, hrun, ht5, hg5⟩ := (ht2.drew).store kG encG_inj Try.underlying84 (x := (a, b)) hk hn (by omega) (c := (l.length : Int) + 1) rfl
  have hp5 := (hg5.block p (lt_of_block (w := (w1.setCell ⟨p, 0, none⟩ (.slice (some ⟨g, 0, none⟩) (l.length + 1) cap)).drew) hp2) (by simpa using hpB)).trans hp2
  have hb5 := (hg5.block b0 (lt_of_block (w := (w1.setCell ⟨p, 0, none⟩ (.slice (some ⟨g, 0, none⟩) (l.length + 1) cap)).drew) hb2) (by simpa using Ne.symm hBb)).trans hb2
  refine ⟨w5, hrun, by unfold World.cell?; rw [hp2]; rfl, by unfold World.cell?; rw [hp2]; rfl, by unfold World.cell?; rw [hb2]; rfl, by unfold World.cell?; rw [hb2]; rfl, by unfold World.cell?; rw [hp5]; rfl, by unfold World.cell?; rw [hp5]; rfl, by unfold World.cell?; rw [hb5]; rfl, by unfold World.cell?; rw [hb5]; rfl, ?_⟩
  have r1 := (ownsRow_setCell_other ho1 (a := ⟨p, 0, none⟩) (by simpa [Value.ownBlock] using Ne.symm hgp) (.slice (some ⟨g, 0, none⟩) (l.length + 1) cap)).drew.kept hg5 (by simp [Value.ownBlock]; exact hgB)
  refine ⟨⟨_, B, hp5, hbp, hbB, by simpa [gcells] using r1, ht5⟩, ?_⟩
  exact (hb1.setCell (p := ⟨p, 0, none⟩) hbp _).drew.grown hg5 (Nat.le_trans hbp (Nat.le_of_lt (lt_of_block hp2))) (fun k h => by cases h; exact hbB)

set_option maxRecDepth 20000 in
set_option maxHeartbeats 1000000 in
theorem addG_new (p base : Nat) (l : List (Int × Int)) (a b : Int) (w : World) (hl : l.length ≤ 200) (ha : (Lit.int .i64 a).wf = true) (hb : (Lit.int .i64 b).wf = true) (hn : num l (a, b) = 0) (hbw : base ≤ w.heap.size) (h : TwG w base p l) :
    Calls Try.prog 58 #[.pointer (some ⟨p, 0, none⟩), .agg #[.int .i64 a, .int .i64 b]] w fun e w' => e = .returned (.bool true) ∧ TwG w' base p (l ++ [(a, b)]) ∧ Below base w w' := by
  have hbx : Below w.heap.size w (w.alloc (.cells #[.int .i64 a, .int .i64 b] 71)) := (Below.refl _ _).alloc (Nat.le_refl _) _
  have h1 := h.below hbx
  have H0 : Hid (TwG w base p l) := h
  clear h
  have hnum : Calls Try.prog 72 #[.pointer (some ⟨p, 0, none⟩), .agg #[.int .i64 a, .int .i64 b]] (w.alloc (.cells #[.int .i64 a, .int .i64 b] 71)) fun e w' => e = .returned (.int .i64 0) ∧ Below (w.alloc (.cells #[.int .i64 a, .int .i64 b] 71)).heap.size (w.alloc (.cells #[.int .i64 a, .int .i64 b] 71)) w' := by
    obtain ⟨iv, B, hp, hbp, hbB, ho, ht⟩ := h1
    have := numG_any p B l a b _ ha hb (lt_of_block hp) (by unfold World.cell?; rw [hp]; rfl) ht
    rwa [hn] at this
  have HN : Hid (num l (a, b) = 0) := hn
  have HBX : Hid (Below w.heap.size w (w.alloc (.cells #[.int .i64 a, .int .i64 b] 71))) := hbx
  clear h1 hn hbx
  obtain ⟨i0, hi, hz0, hz1, hz2⟩ := info_parts Try.infoSig
  go_enter Try.func58, Try.ntmps58
  go_wp2_with (first | (go_at_call 72; refine hnum.mono ?_; rintro e w2 ⟨rfl, hb2⟩))
  clear hnum
  have hbw2 : Below w.heap.size w w2 := HBX.out.trans (hb2.mono (by simp))
  obtain ⟨iv, B, hp0, hbp, hbB, ho0, ht0⟩ := H0.out
  have hp := (hbw2.block p (lt_of_block hp0)).trans hp0
  have ho := ho0.kept (grown_of_below hbw2) (by cases iv.ownBlock <;> simp)
  have ht := ht0.kept (grown_of_below hbw2) (by simp)
  have hnb : iv.ownBlock ≠ some w.heap.size := fun e => by have := (ho0.lt _ e).2; omega
  have HB2 : Hid (Below w.heap.size w w2) := hbw2
  clear hp0 ho0 ht0 hbw2
  have hpl : p < w2.heap.size := lt_of_block hp
  obtain ⟨ia, ic, hiv⟩ : ∃ ia ic, iv = .slice ia l.length ic := by
    rcases ho.2 with ⟨h1, h2⟩ | ⟨g, cap, cur, h1, _⟩
    · exact ⟨none, 0, by rw [h2]; exact h1⟩
    · exact ⟨_, _, h1⟩
  subst hiv
  have c0 : w2.cell? ⟨p, 0, none⟩ = some (.slice ia l.length ic) := by unfold World.cell?; rw [hp]; rfl
  have hbox : w2.heap[w.heap.size]? = some (.cells #[.int .i64 a, .int .i64 b] 71 (0, 0)) := (hb2.block w.heap.size (by simp)).trans (heap_alloc_new w _)
  have x0 : w2.cell? ⟨w.heap.size, 0, none⟩ = some (.int .i64 a) := by unfold World.cell?; rw [hbox]; rfl
  have x1 : w2.cell? ⟨w.heap.size, 1, none⟩ = some (.int .i64 b) := by unfold World.cell?; rw [hbox]; rfl
  have f0 : w2.frozen? ⟨p, 0, none⟩ = false := Joins.unfrozen_of_block hp 0
  have hpx : p ≠ w.heap.size := by rintro rfl; rw [hp] at hbox; simp at hbox
  have HP : Hid (w2.heap[p]? = some (.cells #[.slice ia l.length ic, .map (some B)] 86 (0, 0)) ∧ base ≤ p ∧ base ≤ B ∧ Tab 71 encG w2 B l ∧ w2.heap[w.heap.size]? = some (.cells #[.int .i64 a, .int .i64 b] 71 (0, 0)) ∧ Value.ownBlock (.slice ia l.length ic) ≠ some w.heap.size) := ⟨hp, hbp, hbB, ht, hbox, hnb⟩
  have HO : Hid (w2.ownsRow base 71 2 (.slice ia l.length ic) l.length (gcells l)) := ho
  clear hp ht hbox hnb ho
  have hlen : l.length + 1 ≤ maxLen := by unfold maxLen; omega
  have hbase2 : base ≤ w2.heap.size := Nat.le_trans hbw (by have := hb2.size; simp at this; omega)
  go_region_law
    ((refine step_append_lies _ (by rfl) _ _ _ (by rfl) base 71 i0 (.agg #[.int .i64 0, .int .i64 0]) 2 16 Try.underlying27 hi hz0 hz1 hz2 rfl (by omega) (.slice ia l.length ic) l.length (gcells l) (by rfl) (by first | exact (HO.out.alloc _).drew | exact HO.out.drew.alloc _) ⟨w2.heap.size, 0, none⟩ 1 1 [.int .i64 a, .int .i64 b] (by rfl) (by rfl) (news2 (by first | exact heap_alloc_new w2 _ | exact heap_alloc_new w2.drew _)) one2 (by omega) hlen (by omega) (by simp; omega) (w2.heap.size + 1) (by simp) ?_; intro g cap w3 ho3 hg3 hat hlt; obtain ⟨y0, y1, y2, y3, HY⟩ := addG_facts (x := (a, b)) HP.out.1 HP.out.2.1 HP.out.2.2.1 HO.out HP.out.2.2.2.1 HP.out.2.2.2.2.1 HP.out.2.2.2.2.2 ho3 hg3; clear ho3 hg3 hat hlt))
  all_goals
    go_wp2
    obtain ⟨w5, hrun, q0, q1, q2, q3, m0, m1, m2, m3, HZ⟩ := addG_end hl ha hb HN.out HP.out.2.1 HP.out.2.2.1 HY.out
    clear y0 y1 y2 y3
    go_region_held3 (fun w' => w'.cell? ⟨p, 0, none⟩ = some (.slice (some ⟨g, 0, none⟩) (l.length + 1) cap) ∧ w'.cell? ⟨p, 1, none⟩ = some (.map (some B)) ∧ w'.cell? ⟨w.heap.size, 0, none⟩ = some (.int .i64 a) ∧ w'.cell? ⟨w.heap.size, 1, none⟩ = some (.int .i64 b)) (go_keep)
      (first | (go_at_call 73; refine (countG_any p (l.length + 1) cap (some ⟨g, 0, none⟩) _ ?_).mono ?_; (simp [*]); rintro e w' ⟨rfl, rfl⟩))
    go_wp2
    go_ret
    exact ⟨rfl, HZ.out.1, (HB2.out.mono hbw).trans HZ.out.2⟩

end Go.Proofs.Ytocgmgcjbmipnaa

namespace Go.Proofs.Ytocgmgcjbmipnaa
open Go.RowKit Go.Maps Go.WideMaps

/-- What reading the signatures leaves. -/
def RG (n : Int) (gs : List (Int × Int)) (w w' : World) (e : Ending) : Prop :=
  Below w.heap.size w w' ∧ ((sgo n [] gs = 0 ∧ ∃ p, e = .returned (.tuple #[.pointer (some ⟨p, 0, none⟩), .int .i64 0]) ∧ TwG w' w.heap.size p gs) ∨
    (sgo n [] gs ≠ 0 ∧ e = .returned (.tuple #[.pointer none, .int .i64 (sgo n [] gs)])))

set_option maxHeartbeats 1000000 in
theorem readSigns_any (a : Option Addr) (m cap : Nat) (gs : List (Int × Int)) (n : Int) (w : World) (hl : m ≤ 120) (hz : ∀ j, (Lit.int .i64 (gs.getD j G0).1).wf = true ∧ (Lit.int .i64 (gs.getD j G0).2).wf = true) (hs : GAt w a m gs) :
    Calls Try.prog 35 #[.slice a m cap, .int .i64 n] w fun e w' => RG n gs w w' e := by
  have HM : Hid (gs.length = m) := hs.1
  have HGG : Hid (GAt w a m gs) := hs
  clear hs
  go_enter Try.func35, Try.ntmps35
  go_wp2_with (first | (go_at_call 55; refine (newG_any _).mono ?_; rintro e w1 ⟨p, rfl, htw1, hb1⟩))
  go_loopw [12] (fun i wr => ∃ k : Nat, k ≤ m ∧ i = .int .i64 k ∧ Hid (sgo n [] gs = gAt n gs k) ∧ TwG wr w.heap.size p (gs.take k) ∧ Below w.heap.size w wr) (fun i _ => m - (intOf i).toNat)
  case atStart => exact ⟨0, Nat.zero_le _, rfl, (gAt_zero n gs).symm, htw1, hb1⟩
  case round =>
    obtain ⟨k, hk, rfl, hinv, htw, hbel⟩ := hrel
    clear htw1 hb1
    by_cases hlt : k < m
    · rcases HGG.out.2 with h0 | ⟨b, off, ha, hb, hc⟩
      · omega
      subst ha
      obtain ⟨g, hg⟩ : ∃ g, g = gs.getD k G0 := ⟨_, rfl⟩
      have hcx := hc k hlt
      have hwf := hz k
      rw [← hg] at hcx hwf
      obtain ⟨g1, g2⟩ := g
      have c0 := (hbel.cell (p := ⟨b, off + k * 2, none⟩) hb).trans hcx.1
      have c1 := (hbel.cell (p := ⟨b, off + k * 2 + 1, none⟩) hb).trans hcx.2
      have HG : Hid ((g1, g2) = gs.getD k G0) := hg
      have HW : Hid ((Lit.int .i64 g1).wf = true ∧ (Lit.int .i64 g2).wf = true) := hwf
      clear hg hc hcx hz hwf
      have hbw : b < wr.heap.size := Nat.lt_of_lt_of_le hb hbel.size
      by_cases hk1 : inB g1 1 999 = true
      · by_cases hk2 : inB g2 1 n = true
        · have hok : 1 ≤ g1 ∧ g1 ≤ 999 ∧ 1 ≤ g2 ∧ g2 ≤ n := ⟨(inB_true.1 hk1).1, (inB_true.1 hk1).2, (inB_true.1 hk2).1, (inB_true.1 hk2).2⟩
          have HOK : Hid (1 ≤ g1 ∧ g1 ≤ 999 ∧ 1 ≤ g2 ∧ g2 ≤ n) := hok
          clear hok
          have hbx : Below wr.heap.size wr (wr.alloc (.cells #[.int .i64 g1, .int .i64 g2] 71)) := (Below.refl _ _).alloc (Nat.le_refl _) _
          have hbx0 := hbel.trans (hbx.mono hbel.size)
          by_cases hc0 : num (gs.take k) (g1, g2) = 0
          · have hadd := addG_new p w.heap.size (gs.take k) g1 g2 (wr.alloc (.cells #[.int .i64 g1, .int .i64 g2] 71)) (by simp; omega) HW.out.1 HW.out.2 hc0 hbx0.size (htw.below hbx)
            have HC0 : Hid (num (gs.take k) (g1, g2) = 0) := hc0
            have HB0 : Hid (Below w.heap.size w (wr.alloc (.cells #[.int .i64 g1, .int .i64 g2] 71))) := hbx0
            clear hc0 htw hbx hbx0
            go_wp2_with (first
              | (go_at_call 56; refine (isKey_any _ _).mono ?_; rintro e w' ⟨rfl, hw⟩; have hw2 := hw.symm; subst hw2)
              | (go_at_call 57; refine (isWithin_any _ _ _ _).mono ?_; rintro e w' ⟨rfl, hw⟩; have hw2 := hw.symm; subst hw2)
              | (go_at_call 58; refine hadd.mono ?_; rintro e w2 ⟨rfl, htw2, hb2⟩))
            go_roundw
            case rel =>
              have e1 : gs.take (k + 1) = gs.take k ++ [(g1, g2)] := by rw [take_snoc gs G0 k (by rw [HM.out]; exact hlt), HG.out]
              exact ⟨k + 1, by omega, by go_num, g_next HM.out hlt HG.out HOK.out HC0.out hinv.out, by rw [e1]; exact htw2, HB0.out.trans hb2⟩
            case measure => simp [intOf]; omega
          · have hadd := addG_old p w.heap.size (gs.take k) g1 g2 (wr.alloc (.cells #[.int .i64 g1, .int .i64 g2] 71)) HW.out.1 HW.out.2 hc0 (htw.below hbx)
            have HC0 : Hid (¬ num (gs.take k) (g1, g2) = 0) := hc0
            have HB0 : Hid (Below w.heap.size w (wr.alloc (.cells #[.int .i64 g1, .int .i64 g2] 71))) := hbx0
            clear hc0 htw hbx hbx0
            go_wp2_with (first
              | (go_at_call 56; refine (isKey_any _ _).mono ?_; rintro e w' ⟨rfl, hw⟩; have hw2 := hw.symm; subst hw2)
              | (go_at_call 57; refine (isWithin_any _ _ _ _).mono ?_; rintro e w' ⟨rfl, hw⟩; have hw2 := hw.symm; subst hw2)
              | (go_at_call 58; refine hadd.mono ?_; rintro e w2 ⟨rfl, hb2⟩))
            go_ret2
            have e7 := g_taken HM.out hlt HG.out HOK.out HC0.out hinv.out
            exact ⟨HB0.out.trans (hb2.mono HB0.out.size), .inr ⟨by rw [e7]; decide, by rw [e7]; rfl⟩⟩
        · have hk2' : inB g2 1 n = false := by simpa using hk2
          have HOK : Hid (¬ (1 ≤ g1 ∧ g1 ≤ 999 ∧ 1 ≤ g2 ∧ g2 ≤ n)) := fun e => inB_false.1 hk2' ⟨e.2.2.1, e.2.2.2⟩
          clear hk2 htw
          go_wp2_with (first
            | (go_at_call 56; refine (isKey_any _ _).mono ?_; rintro e w' ⟨rfl, hw⟩; have hw2 := hw.symm; subst hw2)
            | (go_at_call 57; refine (isWithin_any _ _ _ _).mono ?_; rintro e w' ⟨rfl, hw⟩; have hw2 := hw.symm; subst hw2))
          go_ret2
          have e7 := g_range HM.out hlt HG.out HOK.out hinv.out
          exact ⟨hbel.alloc hbel.size _, .inr ⟨by rw [e7]; decide, by rw [e7]; rfl⟩⟩
      · have hk1' : inB g1 1 999 = false := by simpa using hk1
        have HOK : Hid (¬ (1 ≤ g1 ∧ g1 ≤ 999 ∧ 1 ≤ g2 ∧ g2 ≤ n)) := fun e => inB_false.1 hk1' ⟨e.1, e.2.1⟩
        clear hk1 htw
        go_wp2_with (first
          | (go_at_call 56; refine (isKey_any _ _).mono ?_; rintro e w' ⟨rfl, hw⟩; have hw2 := hw.symm; subst hw2)
          | (go_at_call 57; refine (isWithin_any _ _ _ _).mono ?_; rintro e w' ⟨rfl, hw⟩; have hw2 := hw.symm; subst hw2))
        go_ret2
        have e7 := g_range HM.out hlt HG.out HOK.out hinv.out
        exact ⟨hbel.alloc hbel.size _, .inr ⟨by rw [e7]; decide, by rw [e7]; rfl⟩⟩
    · go_wp2
      go_ret2
      refine ⟨hbel, .inl ⟨g_done HM.out hk hlt hinv.out, p, rfl, ?_⟩⟩
      rwa [List.take_of_length_le (by rw [HM.out]; omega)] at htw

end Go.Proofs.Ytocgmgcjbmipnaa

namespace Go.Proofs.Ytocgmgcjbmipnaa
open Go.RowKit Go.Maps Go.WideMaps

/-- All blocks of the texts' table lie below 'top'. -/
def TopS (w : World) (p top : Nat) : Prop := ∀ iv B, w.heap[p]? = some (.cells #[iv, .map (some B)] 83 (0, 0)) → p < top ∧ B < top ∧ ∀ k, iv.ownBlock = some k → k < top

/-- What reading a ledger leaves: its tables (the signatures' behind all that the texts' is), or its fault and no tables. -/
def RL (ss : List ByteArray) (gs : List (Int × Int)) (w w' : World) (e : Ending) : Prop :=
  Below w.heap.size w w' ∧
  ((flt ss gs = 0 ∧ ∃ p q top, e = .returned (.tuple #[.agg #[.pointer (some ⟨p, 0, none⟩), .pointer (some ⟨q, 0, none⟩)], .int .i64 0]) ∧ TwS w' w.heap.size p ss ∧ TopS w' p top ∧ TwG w' top q gs ∧ w.heap.size ≤ top) ∨
    (flt ss gs ≠ 0 ∧ e = .returned (.tuple #[.agg #[.pointer none, .pointer none], .int .i64 (flt ss gs)])))

theorem TwS.top {w : World} {base p : Nat} {l : List ByteArray} (h : TwS w base p l) : TopS w p w.heap.size := by
  obtain ⟨iv, B, hp, hbp, hbB, ho, ht⟩ := h
  intro iv' B' hp'
  rw [hp] at hp'
  simp at hp'
  obtain ⟨rfl, rfl⟩ := hp'
  exact ⟨lt_of_block hp, ht.lt, fun k hk => (ho.lt k hk).2⟩

theorem TopS.of_block {w w' : World} {p top : Nat} (h : TopS w p top) (hb : w'.heap[p]? = w.heap[p]?) : TopS w' p top := fun iv B hp => h iv B (hb ▸ hp)

theorem TwS.set {w : World} {base p b i : Nat} {l : List ByteArray} (h : TwS w base p l) (hb : b < base) (v : Value) : TwS (w.setCell ⟨b, i, none⟩ v) base p l := by
  obtain ⟨iv, B, hp, hbp, hbB, ho, ht⟩ := h
  exact ⟨iv, B, (Below.heap_setCell w ⟨b, i, none⟩ v p (show p ≠ b by omega)).trans hp, hbp, hbB, ownsRow_setCell_below ho (a := ⟨b, i, none⟩) hb v, ht.setCell (a := ⟨b, i, none⟩) (show B ≠ b by omega) v⟩
theorem TwG.set {w : World} {base p b i : Nat} {l : List (Int × Int)} (h : TwG w base p l) (hb : b < base) (v : Value) : TwG (w.setCell ⟨b, i, none⟩ v) base p l := by
  obtain ⟨iv, B, hp, hbp, hbB, ho, ht⟩ := h
  exact ⟨iv, B, (Below.heap_setCell w ⟨b, i, none⟩ v p (show p ≠ b by omega)).trans hp, hbp, hbB, ownsRow_setCell_below ho (a := ⟨b, i, none⟩) hb v, ht.setCell (a := ⟨b, i, none⟩) (show B ≠ b by omega) v⟩

theorem TwS.mono {w : World} {base base' p : Nat} {l : List ByteArray} (h : TwS w base p l) (hb : base' ≤ base) : TwS w base' p l := by
  obtain ⟨iv, B, hp, hbp, hbB, ho, ht⟩ := h
  exact ⟨iv, B, hp, by omega, by omega, Joins.ownsRow_le ho hb, ht⟩
theorem TwG.mono {w : World} {base base' p : Nat} {l : List (Int × Int)} (h : TwG w base p l) (hb : base' ≤ base) : TwG w base' p l := by
  obtain ⟨iv, B, hp, hbp, hbB, ho, ht⟩ := h
  exact ⟨iv, B, hp, by omega, by omega, Joins.ownsRow_le ho hb, ht⟩

theorem TwS.items {w : World} {base p : Nat} {l : List ByteArray} (h : TwS w base p l) : ∃ a cap, w.cell? ⟨p, 0, none⟩ = some (.slice a l.length cap) ∧ l.length ≤ cap ∧ cap ≤ maxLen ∧ SAt w a l.length l := by
  obtain ⟨iv, B, hp, hbp, hbB, ho, ht⟩ := h
  have hc : w.cell? ⟨p, 0, none⟩ = some iv := by unfold World.cell?; rw [hp]; rfl
  rcases id ho.2 with ⟨h1, h2⟩ | ⟨g, cap, cur, h1, _, _, hcap, hm, _⟩
  · refine ⟨none, 0, by rw [hc, h1, h2], by omega, by unfold maxLen; omega, rfl, .inl h2⟩
  · subst h1
    exact ⟨_, _, hc, hcap, hm, SAt.owned ho rfl⟩

theorem TwG.items {w : World} {base p : Nat} {l : List (Int × Int)} (h : TwG w base p l) : ∃ a cap, w.cell? ⟨p, 0, none⟩ = some (.slice a l.length cap) ∧ l.length ≤ cap ∧ cap ≤ maxLen ∧ GAt w a l.length l := by
  obtain ⟨iv, B, hp, hbp, hbB, ho, ht⟩ := h
  have hc : w.cell? ⟨p, 0, none⟩ = some iv := by unfold World.cell?; rw [hp]; rfl
  rcases id ho.2 with ⟨h1, h2⟩ | ⟨g, cap, cur, h1, _, _, hcap, hm, _⟩
  · refine ⟨none, 0, by rw [hc, h1, h2], by omega, by unfold maxLen; omega, rfl, .inl h2⟩
  · subst h1
    exact ⟨_, _, hc, hcap, hm, GAt.owned ho rfl⟩

/-- What is known behind the texts' reading inside a ledger's. -/
def LF (n : Nat) (ta : Option Addr) (tc : Nat) (ga : Option Addr) (m gc : Nat) (ss : List ByteArray) (w : World) (p : Nat) (w' : World) : Prop :=
  TwS w' ((w.alloc (.cells #[.slice ta n tc, .slice ga m gc] 29)).alloc (.cells #[.pointer none, .pointer none] 59)).heap.size p ss ∧
  Below ((w.alloc (.cells #[.slice ta n tc, .slice ga m gc] 29)).alloc (.cells #[.pointer none, .pointer none] 59)).heap.size ((w.alloc (.cells #[.slice ta n tc, .slice ga m gc] 29)).alloc (.cells #[.pointer none, .pointer none] 59)) w'

theorem lf_facts {n : Nat} {ta : Option Addr} {tc : Nat} {ga : Option Addr} {m gc : Nat} {ss : List ByteArray} {gs : List (Int × Int)} {w : World} {p : Nat} {w2 : World} (hn : ss.length = n) (hg : GAt w ga m gs) (h : LF n ta tc ga m gc ss w p w2) :
    ∃ ia ic, w2.cell? ⟨w.heap.size, 1, none⟩ = some (.slice ga m gc) ∧ w2.cell? ⟨p, 0, none⟩ = some (.slice ia n ic) ∧ Hid (∀ j, GAt (w2.drewN j) ga m gs) ∧ (w.heap.size < w2.heap.size ∧ p < w2.heap.size ∧ w.heap.size + 1 < w2.heap.size) ∧ Hid (w2.heap[w.heap.size + 1]? = some (.cells #[.pointer none, .pointer none] 59 (0, 0))) := by
  obtain ⟨htw, hb⟩ := h
  have hsz := hb.size
  simp at hsz
  obtain ⟨ia, ic, hi, _⟩ := htw.items
  rw [hn] at hi
  have hbx : Below w.heap.size w w2 := ((((Below.refl _ _).alloc (Nat.le_refl _) _).alloc (by simp) _).trans (hb.mono (by simp; omega)))
  refine ⟨ia, ic, (hb.cell (p := ⟨w.heap.size, 1, none⟩) (by simp; omega)).trans (by simp), hi, fun j => (hg.below hbx (Nat.le_refl _)).below (Joins.below_draws _ w2 j) (Nat.le_refl _), ⟨by omega, ?_, by omega⟩, ?_⟩
  · obtain ⟨iv, B, hp, _⟩ := htw
    exact lt_of_block hp
  · refine (hb.block (w.heap.size + 1) (by simp)).trans ?_
    rw [show w.heap.size + 1 = (w.alloc (.cells #[.slice ta n tc, .slice ga m gc] 29)).heap.size by simp]
    exact heap_alloc_new _ _

set_option maxHeartbeats 1000000 in
theorem readLedger_any (n m tc gc : Nat) (ta ga : Option Addr) (ss : List ByteArray) (gs : List (Int × Int)) (w : World)
    (hz : ∀ j, (ss.getD j E0).size ≤ maxLen) (hw : ∀ j, (Lit.int .i64 (gs.getD j G0).1).wf = true ∧ (Lit.int .i64 (gs.getD j G0).2).wf = true) (hs : SAt w ta n ss) (hg : GAt w ga m gs) :
    Calls Try.prog 20 #[.agg #[.slice ta n tc, .slice ga m gc]] w fun e w' => RL ss gs w w' e := by
  have HN : Hid (ss.length = n) := hs.1
  have HM : Hid (gs.length = m) := hg.1
  by_cases hbig : 60 < n ∨ 120 < m
  · have hf := flt_many HN.out HM.out hbig
    have HF : Hid (flt ss gs = 2) := hf
    clear hf hs hg hz hw
    by_cases h60 : 60 < n
    · go_enter Try.func20, Try.ntmps20
      go_wp2
      refine bodyPost_ret (v := .tuple #[.agg #[.pointer none, .pointer none], .int .i64 2]) (by simp [results, Try.results20, go_sem]) rfl ⟨((Below.refl _ _).alloc (Nat.le_refl _) _).alloc (by simp) _, .inr ⟨by rw [HF.out]; decide, by rw [HF.out]⟩⟩
    · have h120 : 120 < m := by omega
      go_enter Try.func20, Try.ntmps20
      go_wp2
      refine bodyPost_ret (v := .tuple #[.agg #[.pointer none, .pointer none], .int .i64 2]) (by simp [results, Try.results20, go_sem]) rfl ⟨((Below.refl _ _).alloc (Nat.le_refl _) _).alloc (by simp) _, .inr ⟨by rw [HF.out]; decide, by rw [HF.out]⟩⟩
  · have h60 : n ≤ 60 := by omega
    have h120 : m ≤ 120 := by omega
    have HB : Hid (¬ (60 < n ∨ 120 < m)) := hbig
    clear hbig
    have hbx : Below w.heap.size w ((w.alloc (.cells #[.slice ta n tc, .slice ga m gc] 29)).alloc (.cells #[.pointer none, .pointer none] 59)) := ((Below.refl _ _).alloc (Nat.le_refl _) _).alloc (by simp) _
    have hrt := readTexts_any ta n tc ss _ h60 hz (hs.below hbx (Nat.le_refl _))
    have HBX : Hid (Below w.heap.size w ((w.alloc (.cells #[.slice ta n tc, .slice ga m gc] 29)).alloc (.cells #[.pointer none, .pointer none] 59))) := hbx
    have HGG : Hid (GAt w ga m gs) := hg
    have HW : Hid (∀ j, (Lit.int .i64 (gs.getD j G0).1).wf = true ∧ (Lit.int .i64 (gs.getD j G0).2).wf = true) := hw
    clear hbx hs hg hz hw
    by_cases ht : tgo [] ss = 0
    · have hrt' := hrt.mono fun e w' (h : RT ss _ w' e) => show ∃ p, e = .returned (.tuple #[.pointer (some ⟨p, 0, none⟩), .int .i64 0]) ∧ LF n ta tc ga m gc ss w p w' by
        rcases h with ⟨hb, h | h⟩
        · obtain ⟨_, p, he, htw⟩ := h
          exact ⟨p, he, htw, hb⟩
        · exact absurd ht h.1
      clear hrt
      have HT0 : Hid (tgo [] ss = 0) := ht
      clear ht
      by_cases hg0 : sgo n [] gs = 0
      · have HF : Hid (flt ss gs = 0) := flt_signs HN.out HM.out HB.out HT0.out hg0
        have HC : Hid (sgo n [] gs = 0) := hg0
        clear hg0
        go_enter Try.func20, Try.ntmps20
        go_wp2_with (first | (go_at_call 34; refine hrt'.mono ?_; rintro e w2 ⟨p, rfl, hlf⟩))
        clear hrt'
        obtain ⟨ia, ic, l0, l1, HSG, hsz, HRB⟩ := lf_facts HN.out HGG.out hlf
        have hrs : ∀ j, Calls Try.prog 35 #[.slice ga m gc, .int .i64 n] (w2.drewN j) fun e w' => ∃ q, e = .returned (.tuple #[.pointer (some ⟨q, 0, none⟩), .int .i64 0]) ∧ TwG w' w2.heap.size q gs ∧ Below w2.heap.size w2 w' := fun j => (readSigns_any ga m gc gs n _ h120 HW.out (HSG.out j)).mono fun e w' (h : RG n gs _ w' e) => by
          rcases h with ⟨hb, h | h⟩
          · obtain ⟨_, q, he, htg⟩ := h
            exact ⟨q, he, htg, (Joins.below_draws _ w2 j).trans hb⟩
          · exact absurd HC.out h.1
        go_region_held3 (fun w' => w'.cell? ⟨w.heap.size, 1, none⟩ = some (.slice ga m gc) ∧ w'.cell? ⟨p, 0, none⟩ = some (.slice ia n ic)) (go_keep)
          (first | (go_at_call 36; refine (countS_any p n ic ia _ ?_).mono ?_; (simp [*]); rintro e w' ⟨rfl, rfl⟩) | (go_at_call 35; refine (hrs 1).mono ?_; rintro e w3 ⟨q, rfl, htg, hb3⟩; have z0 := (hb3.cell (p := ⟨w.heap.size, 1, none⟩) hsz.1).trans l0; have z1 := (hb3.cell (p := ⟨p, 0, none⟩) hsz.2.1).trans l1; obtain ⟨x0, x1, f0, f1, HR⟩ := res_cells HRB.out hb3 hsz.2.2))
        go_wp2
        obtain ⟨s0, s1, s2⟩ := two_set HR.out (.pointer (some ⟨p, 0, none⟩)) (.pointer (some ⟨q, 0, none⟩))
        refine bodyPost_ret (v := .tuple #[.agg #[.pointer (some ⟨p, 0, none⟩), .pointer (some ⟨q, 0, none⟩)], .int .i64 0]) (by simp [results, Try.results20, go_sem, s0, s1]) rfl ⟨?_, .inl ⟨HF.out, p, q, w2.heap.size, rfl, ?_, ?_, ?_, by omega⟩⟩
        · exact (((HBX.out.trans (hlf.2.mono (by simp; omega))).trans (hb3.mono (by omega))).setCell (by simp) _).setCell (by simp) _
        · exact (((hlf.1.below hb3).set (by simp) _).set (by simp) _).mono (by simp; omega)
        · refine hlf.1.top.of_block ?_
          have hpb : p ≠ w.heap.size + 1 := by obtain ⟨iv, B, hp, hbp, _⟩ := hlf.1; simp at hbp; omega
          exact (Below.heap_setCell _ ⟨w.heap.size + 1, 1, none⟩ _ p hpb).trans ((Below.heap_setCell _ ⟨w.heap.size + 1, 0, none⟩ _ p hpb).trans (hb3.block p hsz.2.1))
        · exact (htg.set hsz.2.2 _).set hsz.2.2 _
      · obtain ⟨c, hc⟩ : ∃ c, c = sgo n [] gs := ⟨_, rfl⟩
        have hcz : c ≠ 0 := by rw [hc]; exact hg0
        have HF : Hid (flt ss gs = c) := flt_signs HN.out HM.out HB.out HT0.out hc.symm
        have HC : Hid (c = sgo n [] gs) := hc
        clear hc hg0
        go_enter Try.func20, Try.ntmps20
        go_wp2_with (first | (go_at_call 34; refine hrt'.mono ?_; rintro e w2 ⟨p, rfl, hlf⟩))
        clear hrt'
        obtain ⟨ia, ic, l0, l1, HSG, hsz, HRB⟩ := lf_facts HN.out HGG.out hlf
        have hrs : ∀ j, Calls Try.prog 35 #[.slice ga m gc, .int .i64 n] (w2.drewN j) fun e w' => e = .returned (.tuple #[.pointer none, .int .i64 c]) ∧ Below w2.heap.size w2 w' := fun j => (readSigns_any ga m gc gs n _ h120 HW.out (HSG.out j)).mono fun e w' (h : RG n gs _ w' e) => by
          rcases h with ⟨hb, h | h⟩
          · exact absurd (HC.out.trans h.1) hcz
          · exact ⟨by rw [HC.out]; exact h.2, (Joins.below_draws _ w2 j).trans hb⟩
        go_region_held3 (fun w' => w'.cell? ⟨w.heap.size, 1, none⟩ = some (.slice ga m gc) ∧ w'.cell? ⟨p, 0, none⟩ = some (.slice ia n ic)) (go_keep)
          (first | (go_at_call 36; refine (countS_any p n ic ia _ ?_).mono ?_; (simp [*]); rintro e w' ⟨rfl, rfl⟩) | (go_at_call 35; refine (hrs 1).mono ?_; rintro e w3 ⟨rfl, hb3⟩; have z0 := (hb3.cell (p := ⟨w.heap.size, 1, none⟩) hsz.1).trans l0; have z1 := (hb3.cell (p := ⟨p, 0, none⟩) hsz.2.1).trans l1; obtain ⟨x0, x1, f0, f1, HR⟩ := res_cells HRB.out hb3 hsz.2.2))
        go_wp2
        obtain ⟨s0, s1, s2⟩ := two_set HR.out (.pointer none) (.pointer none)
        refine bodyPost_ret (v := .tuple #[.agg #[.pointer none, .pointer none], .int .i64 c]) (by simp [results, Try.results20, go_sem, s0, s1]) rfl ⟨?_, .inr ⟨by rw [HF.out]; exact hcz, by rw [HF.out]⟩⟩
        exact (((HBX.out.trans (hlf.2.mono (by simp; omega))).trans (hb3.mono (by omega))).setCell (by simp) _).setCell (by simp) _
    · obtain ⟨c, hc⟩ : ∃ c, c = tgo [] ss := ⟨_, rfl⟩
      have hcz : c ≠ 0 := by rw [hc]; exact ht
      have HF : Hid (flt ss gs = c) := flt_texts HN.out HM.out HB.out hc.symm hcz
      have hrt' := hrt.mono fun e w' (h : RT ss _ w' e) => show e = .returned (.tuple #[.pointer none, .int .i64 c]) ∧ Below ((w.alloc (.cells #[.slice ta n tc, .slice ga m gc] 29)).alloc (.cells #[.pointer none, .pointer none] 59)).heap.size ((w.alloc (.cells #[.slice ta n tc, .slice ga m gc] 29)).alloc (.cells #[.pointer none, .pointer none] 59)) w' by
        rcases h with ⟨hb, h | h⟩
        · exact absurd h.1 ht
        · exact ⟨by rw [hc]; exact h.2, hb⟩
      clear hrt hc ht
      go_enter Try.func20, Try.ntmps20
      go_wp2_with (first | (go_at_call 34; refine hrt'.mono ?_; rintro e w2 ⟨rfl, hb2⟩; obtain ⟨x0, x1, f0, f1, HR⟩ := res_cells (w := (w.alloc (.cells #[.slice ta n tc, .slice ga m gc] 29)).alloc (.cells #[.pointer none, .pointer none] 59)) (b := w.heap.size + 1) (by rw [show w.heap.size + 1 = (w.alloc (.cells #[.slice ta n tc, .slice ga m gc] 29)).heap.size by simp]; exact heap_alloc_new _ _) hb2 (by simp)))
      obtain ⟨s0, s1, s2⟩ := two_set HR.out (.pointer none) (.pointer none)
      refine bodyPost_ret (v := .tuple #[.agg #[.pointer none, .pointer none], .int .i64 c]) (by simp [results, Try.results20, go_sem, s0, s1]) rfl ⟨?_, .inr ⟨by rw [HF.out]; exact hcz, by rw [HF.out]⟩⟩
      exact ((HBX.out.trans (hb2.mono (by simp; omega))).setCell (by simp) _).setCell (by simp) _

end Go.Proofs.Ytocgmgcjbmipnaa
