/- What the program's own reading of a whole ledger comes to: the two tables, or its fault. -/
import Derived.Test.YtaopblgnmmhjfaaRdG
namespace Go.Proofs.Ytaopblgnmmhjfaa
open Go.RowKit Go.Maps Go.WideMaps

/-- All blocks of the texts' table lie below 'top'. -/
def TopS (w : World) (p top : Nat) : Prop := ∀ iv B, w.heap[p]? = some (.cells #[iv, .map (some B)] 172 (0, 0)) → p < top ∧ B < top ∧ ∀ k, iv.ownBlock = some k → k < top

/-- What reading a ledger leaves: its tables (the signatures' behind all that the texts' is), or its fault and no tables. -/
def RL (ss : List ByteArray) (gs : List (Int × Int)) (w w' : World) (e : Ending) : Prop :=
  Below w.heap.size w w' ∧
  ((flt ss gs = 0 ∧ ∃ p q top, e = .returned (.tuple #[.agg #[.pointer (some ⟨p, 0, none⟩), .pointer (some ⟨q, 0, none⟩)], .int .i64 0]) ∧ TwS w' w.heap.size p ss ∧ TopS w' p top ∧ TwG w' top q gs ∧ w.heap.size ≤ top) ∨
    (flt ss gs ≠ 0 ∧ e = .returned (.tuple #[.agg #[.pointer none, .pointer none], .int .i64 (flt ss gs)])))

theorem TwS.top {w : World} {base p : Nat} {l : List ByteArray} (h : TwS w base p l) : TopS w p w.heap.size := by
  obtain ⟨iv, B, hp, hbp, hbB, ho, ht⟩ := h
  intro iv' B' hp'
  rw [hp] at hp'
  simp at hp'
  obtain ⟨rfl, rfl⟩ := hp'
  exact ⟨lt_of_block hp, ht.lt, fun k hk => (ho.lt k hk).2⟩

theorem TopS.of_block {w w' : World} {p top : Nat} (h : TopS w p top) (hb : w'.heap[p]? = w.heap[p]?) : TopS w' p top := fun iv B hp => h iv B (hb ▸ hp)

theorem TwS.set {w : World} {base p b i : Nat} {l : List ByteArray} (h : TwS w base p l) (hb : b < base) (v : Value) : TwS (w.setCell ⟨b, i, none⟩ v) base p l := by
  obtain ⟨iv, B, hp, hbp, hbB, ho, ht⟩ := h
  exact ⟨iv, B, (Below.heap_setCell w ⟨b, i, none⟩ v p (show p ≠ b by omega)).trans hp, hbp, hbB, ownsRow_setCell_below ho (a := ⟨b, i, none⟩) hb v, ht.setCell (a := ⟨b, i, none⟩) (show B ≠ b by omega) v⟩
theorem TwG.set {w : World} {base p b i : Nat} {l : List (Int × Int)} (h : TwG w base p l) (hb : b < base) (v : Value) : TwG (w.setCell ⟨b, i, none⟩ v) base p l := by
  obtain ⟨iv, B, hp, hbp, hbB, ho, ht⟩ := h
  exact ⟨iv, B, (Below.heap_setCell w ⟨b, i, none⟩ v p (show p ≠ b by omega)).trans hp, hbp, hbB, ownsRow_setCell_below ho (a := ⟨b, i, none⟩) hb v, ht.setCell (a := ⟨b, i, none⟩) (show B ≠ b by omega) v⟩

theorem TwS.mono {w : World} {base base' p : Nat} {l : List ByteArray} (h : TwS w base p l) (hb : base' ≤ base) : TwS w base' p l := by
  obtain ⟨iv, B, hp, hbp, hbB, ho, ht⟩ := h
  exact ⟨iv, B, hp, by omega, by omega, Joins.ownsRow_le ho hb, ht⟩
theorem TwG.mono {w : World} {base base' p : Nat} {l : List (Int × Int)} (h : TwG w base p l) (hb : base' ≤ base) : TwG w base' p l := by
  obtain ⟨iv, B, hp, hbp, hbB, ho, ht⟩ := h
  exact ⟨iv, B, hp, by omega, by omega, Joins.ownsRow_le ho hb, ht⟩

theorem TwS.items {w : World} {base p : Nat} {l : List ByteArray} (h : TwS w base p l) : ∃ a cap, w.cell? ⟨p, 0, none⟩ = some (.slice a l.length cap) ∧ l.length ≤ cap ∧ cap ≤ maxLen ∧ SAt w a l.length l := by
  obtain ⟨iv, B, hp, hbp, hbB, ho, ht⟩ := h
  have hc : w.cell? ⟨p, 0, none⟩ = some iv := by unfold World.cell?; rw [hp]; rfl
  rcases id ho.2 with ⟨h1, h2⟩ | ⟨g, cap, cur, h1, _, _, hcap, hm, _⟩
  · refine ⟨none, 0, by rw [hc, h1, h2], by omega, by unfold maxLen; omega, rfl, .inl h2⟩
  · subst h1
    exact ⟨_, _, hc, hcap, hm, SAt.owned ho rfl⟩

theorem TwG.items {w : World} {base p : Nat} {l : List (Int × Int)} (h : TwG w base p l) : ∃ a cap, w.cell? ⟨p, 0, none⟩ = some (.slice a l.length cap) ∧ l.length ≤ cap ∧ cap ≤ maxLen ∧ GAt w a l.length l := by
  obtain ⟨iv, B, hp, hbp, hbB, ho, ht⟩ := h
  have hc : w.cell? ⟨p, 0, none⟩ = some iv := by unfold World.cell?; rw [hp]; rfl
  rcases id ho.2 with ⟨h1, h2⟩ | ⟨g, cap, cur, h1, _, _, hcap, hm, _⟩
  · refine ⟨none, 0, by rw [hc, h1, h2], by omega, by unfold maxLen; omega, rfl, .inl h2⟩
  · subst h1
    exact ⟨_, _, hc, hcap, hm, GAt.owned ho rfl⟩

/-- What is known behind the texts' reading inside a ledger's. -/
def LF (n : Nat) (ta : Option Addr) (tc : Nat) (ga : Option Addr) (m gc : Nat) (ss : List ByteArray) (w : World) (p : Nat) (w' : World) : Prop :=
  TwS w' ((w.alloc (.cells #[.slice ta n tc, .slice ga m gc] 27)).alloc (.cells #[.pointer none, .pointer none] 100)).heap.size p ss ∧
  Below ((w.alloc (.cells #[.slice ta n tc, .slice ga m gc] 27)).alloc (.cells #[.pointer none, .pointer none] 100)).heap.size ((w.alloc (.cells #[.slice ta n tc, .slice ga m gc] 27)).alloc (.cells #[.pointer none, .pointer none] 100)) w'

theorem lf_facts {n : Nat} {ta : Option Addr} {tc : Nat} {ga : Option Addr} {m gc : Nat} {ss : List ByteArray} {gs : List (Int × Int)} {w : World} {p : Nat} {w2 : World} (hn : ss.length = n) (hg : GAt w ga m gs) (h : LF n ta tc ga m gc ss w p w2) :
    ∃ ia ic, w2.cell? ⟨w.heap.size, 1, none⟩ = some (.slice ga m gc) ∧ w2.cell? ⟨p, 0, none⟩ = some (.slice ia n ic) ∧ Hid (∀ j, GAt (w2.drewN j) ga m gs) ∧ (w.heap.size < w2.heap.size ∧ p < w2.heap.size ∧ w.heap.size + 1 < w2.heap.size) ∧ Hid (w2.heap[w.heap.size + 1]? = some (.cells #[.pointer none, .pointer none] 100 (0, 0))) := by
  obtain ⟨htw, hb⟩ := h
  have hsz := hb.size
  simp at hsz
  obtain ⟨ia, ic, hi, _⟩ := htw.items
  rw [hn] at hi
  have hbx : Below w.heap.size w w2 := ((((Below.refl _ _).alloc (Nat.le_refl _) _).alloc (by simp) _).trans (hb.mono (by simp; omega)))
  refine ⟨ia, ic, (hb.cell (p := ⟨w.heap.size, 1, none⟩) (by simp; omega)).trans (by simp), hi, fun j => (hg.below hbx (Nat.le_refl _)).below (Joins.below_draws _ w2 j) (Nat.le_refl _), ⟨by omega, ?_, by omega⟩, ?_⟩
  · obtain ⟨iv, B, hp, _⟩ := htw
    exact lt_of_block hp
  · refine (hb.block (w.heap.size + 1) (by simp)).trans ?_
    rw [show w.heap.size + 1 = (w.alloc (.cells #[.slice ta n tc, .slice ga m gc] 27)).heap.size by simp]
    exact heap_alloc_new _ _

set_option maxHeartbeats 1000000 in
theorem readLedger_any (n m tc gc : Nat) (ta ga : Option Addr) (ss : List ByteArray) (gs : List (Int × Int)) (w : World)
    (hz : ∀ j, (ss.getD j E0).size ≤ maxLen) (hw : ∀ j, (Lit.int .i64 (gs.getD j G0).1).wf = true ∧ (Lit.int .i64 (gs.getD j G0).2).wf = true) (hs : SAt w ta n ss) (hg : GAt w ga m gs) :
    Calls Try.prog 73 #[.agg #[.slice ta n tc, .slice ga m gc]] w fun e w' => RL ss gs w w' e := by
  have HN : Hid (ss.length = n) := hs.1
  have HM : Hid (gs.length = m) := hg.1
  by_cases hbig : 60 < n ∨ 120 < m
  · have hf := flt_many HN.out HM.out hbig
    have HF : Hid (flt ss gs = 2) := hf
    clear hf hs hg hz hw
    by_cases h60 : 60 < n
    · go_enter Try.func73, Try.ntmps73
      go_wp2
      refine bodyPost_ret (v := .tuple #[.agg #[.pointer none, .pointer none], .int .i64 2]) (by simp [results, Try.results73, go_sem]) rfl ⟨((Below.refl _ _).alloc (Nat.le_refl _) _).alloc (by simp) _, .inr ⟨by rw [HF.out]; decide, by rw [HF.out]⟩⟩
    · have h120 : 120 < m := by omega
      go_enter Try.func73, Try.ntmps73
      go_wp2
      refine bodyPost_ret (v := .tuple #[.agg #[.pointer none, .pointer none], .int .i64 2]) (by simp [results, Try.results73, go_sem]) rfl ⟨((Below.refl _ _).alloc (Nat.le_refl _) _).alloc (by simp) _, .inr ⟨by rw [HF.out]; decide, by rw [HF.out]⟩⟩
  · have h60 : n ≤ 60 := by omega
    have h120 : m ≤ 120 := by omega
    have HB : Hid (¬ (60 < n ∨ 120 < m)) := hbig
    clear hbig
    have hbx : Below w.heap.size w ((w.alloc (.cells #[.slice ta n tc, .slice ga m gc] 27)).alloc (.cells #[.pointer none, .pointer none] 100)) := ((Below.refl _ _).alloc (Nat.le_refl _) _).alloc (by simp) _
    have hrt := readTexts_any ta n tc ss _ h60 hz (hs.below hbx (Nat.le_refl _))
    have HBX : Hid (Below w.heap.size w ((w.alloc (.cells #[.slice ta n tc, .slice ga m gc] 27)).alloc (.cells #[.pointer none, .pointer none] 100))) := hbx
    have HGG : Hid (GAt w ga m gs) := hg
    have HW : Hid (∀ j, (Lit.int .i64 (gs.getD j G0).1).wf = true ∧ (Lit.int .i64 (gs.getD j G0).2).wf = true) := hw
    clear hbx hs hg hz hw
    by_cases ht : tgo [] ss = 0
    · have hrt' := hrt.mono fun e w' (h : RT ss _ w' e) => show ∃ p, e = .returned (.tuple #[.pointer (some ⟨p, 0, none⟩), .int .i64 0]) ∧ LF n ta tc ga m gc ss w p w' by
        rcases h with ⟨hb, h | h⟩
        · obtain ⟨_, p, he, htw⟩ := h
          exact ⟨p, he, htw, hb⟩
        · exact absurd ht h.1
      clear hrt
      have HT0 : Hid (tgo [] ss = 0) := ht
      clear ht
      by_cases hg0 : sgo n [] gs = 0
      · have HF : Hid (flt ss gs = 0) := flt_signs HN.out HM.out HB.out HT0.out hg0
        have HC : Hid (sgo n [] gs = 0) := hg0
        clear hg0
        go_enter Try.func73, Try.ntmps73
        go_wp2_with (first | (go_at_call 138; refine hrt'.mono ?_; rintro e w2 ⟨p, rfl, hlf⟩))
        clear hrt'
        obtain ⟨ia, ic, l0, l1, HSG, hsz, HRB⟩ := lf_facts HN.out HGG.out hlf
        have hrs : ∀ j, Calls Try.prog 139 #[.slice ga m gc, .int .i64 n] (w2.drewN j) fun e w' => ∃ q, e = .returned (.tuple #[.pointer (some ⟨q, 0, none⟩), .int .i64 0]) ∧ TwG w' w2.heap.size q gs ∧ Below w2.heap.size w2 w' := fun j => (readSigns_any ga m gc gs n _ h120 HW.out (HSG.out j)).mono fun e w' (h : RG n gs _ w' e) => by
          rcases h with ⟨hb, h | h⟩
          · obtain ⟨_, q, he, htg⟩ := h
            exact ⟨q, he, htg, (Joins.below_draws _ w2 j).trans hb⟩
          · exact absurd HC.out h.1
        go_region_held3 (fun w' => w'.cell? ⟨w.heap.size, 1, none⟩ = some (.slice ga m gc) ∧ w'.cell? ⟨p, 0, none⟩ = some (.slice ia n ic)) (go_keep)
          (first | (go_at_call 76; refine (countS_any p n ic ia _ ?_).mono ?_; (simp [*]); rintro e w' ⟨rfl, rfl⟩) | (go_at_call 139; refine (hrs 1).mono ?_; rintro e w3 ⟨q, rfl, htg, hb3⟩; have z0 := (hb3.cell (p := ⟨w.heap.size, 1, none⟩) hsz.1).trans l0; have z1 := (hb3.cell (p := ⟨p, 0, none⟩) hsz.2.1).trans l1; obtain ⟨x0, x1, f0, f1, HR⟩ := res_cells HRB.out hb3 hsz.2.2))
        go_wp2
        obtain ⟨s0, s1, s2⟩ := two_set HR.out (.pointer (some ⟨p, 0, none⟩)) (.pointer (some ⟨q, 0, none⟩))
        refine bodyPost_ret (v := .tuple #[.agg #[.pointer (some ⟨p, 0, none⟩), .pointer (some ⟨q, 0, none⟩)], .int .i64 0]) (by simp [results, Try.results73, go_sem, s0, s1]) rfl ⟨?_, .inl ⟨HF.out, p, q, w2.heap.size, rfl, ?_, ?_, ?_, by omega⟩⟩
        · exact (((HBX.out.trans (hlf.2.mono (by simp; omega))).trans (hb3.mono (by omega))).setCell (by simp) _).setCell (by simp) _
        · exact (((hlf.1.below hb3).set (by simp) _).set (by simp) _).mono (by simp; omega)
        · refine hlf.1.top.of_block ?_
          have hpb : p ≠ w.heap.size + 1 := by obtain ⟨iv, B, hp, hbp, _⟩ := hlf.1; simp at hbp; omega
          exact (Below.heap_setCell _ ⟨w.heap.size + 1, 1, none⟩ _ p hpb).trans ((Below.heap_setCell _ ⟨w.heap.size + 1, 0, none⟩ _ p hpb).trans (hb3.block p hsz.2.1))
        · exact (htg.set hsz.2.2 _).set hsz.2.2 _
      · obtain ⟨c, hc⟩ : ∃ c, c = sgo n [] gs := ⟨_, rfl⟩
        have hcz : c ≠ 0 := by rw [hc]; exact hg0
        have HF : Hid (flt ss gs = c) := flt_signs HN.out HM.out HB.out HT0.out hc.symm
        have HC : Hid (c = sgo n [] gs) := hc
        clear hc hg0
        go_enter Try.func73, Try.ntmps73
        go_wp2_with (first | (go_at_call 138; refine hrt'.mono ?_; rintro e w2 ⟨p, rfl, hlf⟩))
        clear hrt'
        obtain ⟨ia, ic, l0, l1, HSG, hsz, HRB⟩ := lf_facts HN.out HGG.out hlf
        have hrs : ∀ j, Calls Try.prog 139 #[.slice ga m gc, .int .i64 n] (w2.drewN j) fun e w' => e = .returned (.tuple #[.pointer none, .int .i64 c]) ∧ Below w2.heap.size w2 w' := fun j => (readSigns_any ga m gc gs n _ h120 HW.out (HSG.out j)).mono fun e w' (h : RG n gs _ w' e) => by
          rcases h with ⟨hb, h | h⟩
          · exact absurd (HC.out.trans h.1) hcz
          · exact ⟨by rw [HC.out]; exact h.2, (Joins.below_draws _ w2 j).trans hb⟩
        go_region_held3 (fun w' => w'.cell? ⟨w.heap.size, 1, none⟩ = some (.slice ga m gc) ∧ w'.cell? ⟨p, 0, none⟩ = some (.slice ia n ic)) (go_keep)
          (first | (go_at_call 76; refine (countS_any p n ic ia _ ?_).mono ?_; (simp [*]); rintro e w' ⟨rfl, rfl⟩) | (go_at_call 139; refine (hrs 1).mono ?_; rintro e w3 ⟨rfl, hb3⟩; have z0 := (hb3.cell (p := ⟨w.heap.size, 1, none⟩) hsz.1).trans l0; have z1 := (hb3.cell (p := ⟨p, 0, none⟩) hsz.2.1).trans l1; obtain ⟨x0, x1, f0, f1, HR⟩ := res_cells HRB.out hb3 hsz.2.2))
        go_wp2
        obtain ⟨s0, s1, s2⟩ := two_set HR.out (.pointer none) (.pointer none)
        refine bodyPost_ret (v := .tuple #[.agg #[.pointer none, .pointer none], .int .i64 c]) (by simp [results, Try.results73, go_sem, s0, s1]) rfl ⟨?_, .inr ⟨by rw [HF.out]; exact hcz, by rw [HF.out]⟩⟩
        exact (((HBX.out.trans (hlf.2.mono (by simp; omega))).trans (hb3.mono (by omega))).setCell (by simp) _).setCell (by simp) _
    · obtain ⟨c, hc⟩ : ∃ c, c = tgo [] ss := ⟨_, rfl⟩
      have hcz : c ≠ 0 := by rw [hc]; exact ht
      have HF : Hid (flt ss gs = c) := flt_texts HN.out HM.out HB.out hc.symm hcz
      have hrt' := hrt.mono fun e w' (h : RT ss _ w' e) => show e = .returned (.tuple #[.pointer none, .int .i64 c]) ∧ Below ((w.alloc (.cells #[.slice ta n tc, .slice ga m gc] 27)).alloc (.cells #[.pointer none, .pointer none] 100)).heap.size ((w.alloc (.cells #[.slice ta n tc, .slice ga m gc] 27)).alloc (.cells #[.pointer none, .pointer none] 100)) w' by
        rcases h with ⟨hb, h | h⟩
        · exact absurd h.1 ht
        · exact ⟨by rw [hc]; exact h.2, hb⟩
      clear hrt hc ht
      go_enter Try.func73, Try.ntmps73
      go_wp2_with (first | (go_at_call 138; refine hrt'.mono ?_; rintro e w2 ⟨rfl, hb2⟩; obtain ⟨x0, x1, f0, f1, HR⟩ := res_cells (w := (w.alloc (.cells #[.slice ta n tc, .slice ga m gc] 27)).alloc (.cells #[.pointer none, .pointer none] 100)) (b := w.heap.size + 1) (by rw [show w.heap.size + 1 = (w.alloc (.cells #[.slice ta n tc, .slice ga m gc] 27)).heap.size by simp]; exact heap_alloc_new _ _) hb2 (by simp)))
      obtain ⟨s0, s1, s2⟩ := two_set HR.out (.pointer none) (.pointer none)
      refine bodyPost_ret (v := .tuple #[.agg #[.pointer none, .pointer none], .int .i64 c]) (by simp [results, Try.results73, go_sem, s0, s1]) rfl ⟨?_, .inr ⟨by rw [HF.out]; exact hcz, by rw [HF.out]⟩⟩
      exact ((HBX.out.trans (hb2.mono (by simp; omega))).setCell (by simp) _).setCell (by simp) _

end Go.Proofs.Ytaopblgnmmhjfaa
