/- The program's bench takes a transaction. -/
import Derived.Test.YtgfhnmjpkanikaaEs
namespace Go.Proofs.Ytgfhnmjpkanikaa
open Go.RowKit Go.Maps Go.WideMaps

theorem below_grown {w w1 w2 : World} {lo : Nat} {row : Option Nat} (h : Below w.heap.size w w1) (hlo : lo ≤ w.heap.size) (k : w1.grownBy w2 row) (hr : ∀ g, row = some g → lo ≤ g) : Below lo w w2 :=
  (h.mono hlo).grown k (Nat.le_trans hlo h.size) hr
theorem keep_other {kd f : Int} {rs : List (Int × Int)} {ms : List Mb} (h : ¬ kd = 2) : ms.filter (fun m => !memB rs m.2) = ms.filter (keepM kd f rs) := by
  congr 1
  funext m
  unfold keepM
  rw [decide_eq_false h]
  rfl
theorem erase_rise : ∀ {ms : List Mb} {i : Nat} {f : Int}, ms.Pairwise (fun a b => a.1 < b.1) → i < ms.length → (ms.getD i Z3).1 = f → ms.filter (fun m => !decide (m.1 = f)) = ms.eraseIdx i
  | a :: l, 0, f, h, _, e => by
    rw [List.pairwise_cons] at h
    have e' : a.1 = f := e
    rw [List.filter_cons_of_neg (by simp [e']), List.filter_eq_self.2 (fun c hc => by have := h.1 c hc; simp; omega)]
    rfl
  | a :: l, i + 1, f, h, hi, e => by
    rw [List.pairwise_cons] at h
    have hi' : i < l.length := by simpa using hi
    have e' : (l.getD i Z3).1 = f := e
    have hm : l.getD i Z3 ∈ l := by rw [List.getD, List.getElem?_eq_getElem hi']; exact List.getElem_mem _
    have h1 := h.1 _ hm
    rw [List.filter_cons_of_pos (by simp; omega), erase_rise h.2 hi' e']
    rfl
theorem keep_leave {f : Int} {rs : List (Int × Int)} {ms : List Mb} {i : Nat} (h : Rises ms) (hi : i < ms.length) (e : (ms.getD i Z3).1 = f) : (ms.eraseIdx i).filter (fun m => !memB rs m.2) = ms.filter (keepM 2 f rs) := by
  rw [← erase_rise ((rises_iff _).1 h) hi e, List.filter_filter]
  congr 1
  funext m
  unfold keepM
  rw [Bool.and_comm]
  rfl

/-- What taking comes to. -/
def TkO (w w' : World) (e : Ending) (lo : Nat) (rc : Int) (rr : List Mb) : Prop :=
  ∃ ua uc, e = .returned (.tuple #[.slice ua rr.length uc, .int .i64 rc]) ∧ w'.ownsRow lo 68 3 (.slice ua rr.length uc) rr.length (mcells rr) ∧ Below lo w w'

set_option maxRecDepth 20000 in
set_option maxHeartbeats 4000000 in
theorem takeB_any (n vc lo n2 ic m2 oc : Nat) (va ia oa : Option Addr) (ms : List Mb) (rs : List (Int × Int)) (kd f id : Int) (w : World) (hn : n ≤ 8) (hn2 : n2 ≤ 1048576) (hlo : lo ≤ w.heap.size) (h : w.ownsRow lo 68 3 (.slice va n vc) n (mcells ms)) (hG : GAt w ia n2 rs) (hIb : ∀ b o, ia = some ⟨b, o, none⟩ → b < lo) (hri : Rises ms) :
    Calls Try.prog 22 #[.slice va n vc, .agg #[.int .i64 kd, .int .i64 f, .slice ia n2 ic, .slice oa m2 oc], .int .i64 id] w fun e w' => TkO w w' e lo (takeMR ms kd f rs id).1 (takeMR ms kd f rs id).2 := by
  have hl : ms.length = n := by have := h.1; rw [mcells_length] at this; omega
  have HIG : Hid (∀ b o g, ia = some ⟨b, o, none⟩ → va = some ⟨g, 0, none⟩ → b ≠ g) := fun b o g e1 e2 => by
    subst e2
    have h1 := hIb b o e1
    have h2 := (h.lt g rfl).1
    omega
  have HGL : Hid (∀ m c g, Value.ownBlock (.slice va m c) = some g → g < w.heap.size) := fun m c g e => (h.lt g (by rw [← e]; cases va <;> rfl)).2
  obtain ⟨rc, hrc⟩ : ∃ x, x = (takeMR ms kd f rs id).1 := ⟨_, rfl⟩
  obtain ⟨rr, hrr⟩ : ∃ x, x = (takeMR ms kd f rs id).2 := ⟨_, rfl⟩
  rw [← hrc, ← hrr]
  have HJC : Hid (rc = (takeMR ms kd f rs id).1) := hrc
  have HJR : Hid (rr = (takeMR ms kd f rs id).2) := hrr
  clear hrc hrr
  by_cases h2 : kd = 2
  · subst h2
    have hr1 : (w.alloc (.cells #[.int .i64 2, .int .i64 f, .slice ia n2 ic, .slice oa m2 oc] 28)).ownsRow lo 68 3 (.slice va n vc) n (mcells ms) := h.alloc _
    have T1 : Hid ((w.alloc (.cells #[.int .i64 2, .int .i64 f, .slice ia n2 ic, .slice oa m2 oc] 28)).heap[w.heap.size]? = some (.cells #[.int .i64 2, .int .i64 f, .slice ia n2 ic, .slice oa m2 oc] 28 (0, 0))) := heap_alloc_new _ _
    have HB1 : Hid (Below w.heap.size w (w.alloc (.cells #[.int .i64 2, .int .i64 f, .slice ia n2 ic, .slice oa m2 oc] 28))) := below_box _
    have hG1 : GAt (w.alloc (.cells #[.int .i64 2, .int .i64 f, .slice ia n2 ic, .slice oa m2 oc] 28)) ia n2 rs := hG.below HB1.out (Nat.le_refl _)
    have hLV := leave_any n vc lo va ms f (w.alloc (.cells #[.int .i64 2, .int .i64 f, .slice ia n2 ic, .slice oa m2 oc] 28)) (by omega) (by simp; omega) hr1 hri
    have HRI : Hid (Rises ms) := hri
    have HG1 : Hid (GAt (w.alloc (.cells #[.int .i64 2, .int .i64 f, .slice ia n2 ic, .slice oa m2 oc] 28)) ia n2 rs) := hG1
    have HIB : Hid (∀ b o, ia = some ⟨b, o, none⟩ → b < lo) := hIb
    have HL : Hid (ms.length = n) := hl
    clear h hr1 hG hG1 hri hIb hl
    go_enter Try.func22, Try.ntmps22
    go_wp2_with (fail)
    refine hLV.mono ?_
    clear hLV
    rintro e w2 hlv
    rcases hlv with ⟨hno, rfl, hb2⟩ | ⟨g, i, rfl, hi, hkey, rfl, hO2, hg2⟩
    · have hc : takeMR ms 2 f rs id = (4, []) := by
        unfold takeMR
        rw [if_pos ⟨rfl, none_key HL.out hno⟩]
      have HFI : Hid (TkO w w2 (.returned (.tuple #[.slice none 0 0, .int .i64 4])) lo rc rr) := by
        have e1 : rc = 4 := by rw [HJC.out, hc]
        have e2 : rr = [] := by rw [HJR.out, hc]
        subst e1 e2
        exact ⟨none, 0, rfl, ⟨rfl, .inl ⟨rfl, rfl⟩⟩, (HB1.out.trans (hb2.mono HB1.out.size)).mono hlo⟩
      clear hc hno
      go_wp2
      exact bodyPost_ret (v := .tuple #[.slice none 0 0, .int .i64 4]) (by simp [results, Try.results22, go_sem]) rfl HFI.out
    · obtain ⟨es, hes⟩ : ∃ l, l = ms.eraseIdx i := ⟨_, rfl⟩
      rw [← hes] at hO2 ⊢
      have hel : es.length ≤ 500 := by rw [hes, List.length_eraseIdx_of_lt (by rw [HL.out]; exact hi), HL.out]; omega
      have hG2 : GAt w2 ia n2 rs := gat_grown HG1.out hg2 (fun b o e1 e2 => by have a := HIB.out b o e1; have b2 := (hO2.lt g rfl).1; have := Option.some.inj e2; omega)
      have hLO := lose_any es.length vc lo n2 ic (some ⟨g, 0, none⟩) ia es rs w2 hel hn2 hO2 hG2 (fun b o g' e1 e2 => by cases e2; have a := HIB.out b o e1; have b2 := (hO2.lt g rfl).1; omega)
      obtain ⟨fs, hfs⟩ : ∃ l, l = es.filter (fun m => !memB rs m.2) := ⟨_, rfl⟩
      rw [← hfs] at hLO
      have hc : takeMR ms 2 f rs id = (0, fs) := by
        unfold takeMR
        rw [if_neg (by rw [any_key HL.out hi hkey]; simp), if_neg (by decide), hfs, hes, keep_leave HRI.out (by rw [HL.out]; exact hi) hkey]
      have HRC : Hid (rc = 0) := by show _ = _; rw [HJC.out, hc]
      have HRR : Hid (rr = fs) := by show _ = _; rw [HJR.out, hc]
      have hgl := HGL.out 0 0 g rfl
      have HT2 : Hid (w2.heap[w.heap.size]? = some (.cells #[.int .i64 2, .int .i64 f, .slice ia n2 ic, .slice oa m2 oc] 28 (0, 0))) := (hg2.block w.heap.size (by simp) (fun e => by have := Option.some.inj e; omega)).trans T1.out
      obtain ⟨y0, y1, y2, y3, _⟩ := cells4 HT2.out
      have HB2 : Hid (Below lo w w2) := below_grown HB1.out hlo hg2 (fun g' e => by cases e; exact (hO2.lt g rfl).1)
      have hsz2 := hg2.size
      have hs1 : w.heap.size + 1 ≤ w2.heap.size := by simpa using hsz2
      clear hc hkey hO2 hg2 hG2 hes hfs hsz2
      go_wp2_with (first
        | (go_at_call 42; ((with_reducible refine hLO.mono ?_); clear hLO; rintro e w3 ⟨rfl, hO3, hg3⟩; have HT3 : Hid (w3.heap[w.heap.size]? = some (.cells #[.int .i64 2, .int .i64 f, .slice ia n2 ic, .slice oa m2 oc] 28 (0, 0))) := (hg3.block w.heap.size (by omega) (fun e => by have e2 : w.heap.size = g := Option.some.inj e; omega)).trans HT2.out; clear y0 y1 y2 y3; obtain ⟨y0, y1, y2, y3, _⟩ := cells4 HT3.out; have HFI : Hid (TkO w w3 (.returned (.tuple #[.slice (some ⟨g, 0, none⟩) fs.length vc, .int .i64 0])) lo rc rr) := (by rw [HRC.out, HRR.out]; exact ⟨_, _, rfl, hO3, HB2.out.trans ((Below.refl lo w2).grown hg3 (by omega) (fun g' e => (hO3.lt g' e).1))⟩); clear hO3 hg3)))
      exact bodyPost_ret (v := .tuple #[.slice (some ⟨g, 0, none⟩) fs.length vc, .int .i64 0]) (by simp [results, Try.results22, go_sem]) rfl HFI.out
  · by_cases h1 : kd = 1
    · subst h1
      have hr1 : (w.alloc (.cells #[.int .i64 1, .int .i64 f, .slice ia n2 ic, .slice oa m2 oc] 28)).ownsRow lo 68 3 (.slice va n vc) n (mcells ms) := h.alloc _
      have T1 : Hid ((w.alloc (.cells #[.int .i64 1, .int .i64 f, .slice ia n2 ic, .slice oa m2 oc] 28)).heap[w.heap.size]? = some (.cells #[.int .i64 1, .int .i64 f, .slice ia n2 ic, .slice oa m2 oc] 28 (0, 0))) := heap_alloc_new _ _
      have HB1 : Hid (Below w.heap.size w (w.alloc (.cells #[.int .i64 1, .int .i64 f, .slice ia n2 ic, .slice oa m2 oc] 28))) := below_box _
      have hG1 : GAt (w.alloc (.cells #[.int .i64 1, .int .i64 f, .slice ia n2 ic, .slice oa m2 oc] 28)) ia n2 rs := hG.below HB1.out (Nat.le_refl _)
      have hLO := lose_any n vc lo n2 ic va ia ms rs (w.alloc (.cells #[.int .i64 1, .int .i64 f, .slice ia n2 ic, .slice oa m2 oc] 28)) (by omega) hn2 hr1 hG1 HIG.out
      obtain ⟨fs, hfs⟩ : ∃ f, f = ms.filter (fun m => !memB rs m.2) := ⟨_, rfl⟩
      rw [← hfs] at hLO
      have HFS : Hid (fs = ms.filter (keepM 1 f rs)) := by show _ = _; rw [hfs]; exact keep_other (by omega)
      have HFR : Hid (Rises fs) := by rw [hfs]; exact rises_filter hri
      have hfl : fs.length ≤ 8 := by rw [hfs]; exact Nat.le_trans (List.length_filter_le _ _) (by omega)
      clear h hr1 hG hG1 hri hfs
      have hc : takeMR ms 1 f rs id = joinMR fs (f, id, 0) := by
        unfold takeMR
        rw [if_neg (by simp), if_pos rfl, ← HFS.out]
      have HRC : Hid (rc = (joinMR fs (f, id, 0)).1) := by show _ = _; rw [HJC.out, hc]
      have HRR : Hid (rr = (joinMR fs (f, id, 0)).2) := by show _ = _; rw [HJR.out, hc]
      clear hc
      go_enter Try.func22, Try.ntmps22
      go_wp2_with (first
        | (go_at_call 42; (with_reducible refine hLO.mono ?_); clear hLO; rintro e w2 ⟨rfl, hO2, hg2⟩; have HO2 : Hid (w2.ownsRow lo 68 3 (.slice va fs.length vc) fs.length (mcells fs)) := hO2; have HB2 : Hid (Below lo w w2) := below_grown HB1.out hlo hg2 (fun g e => (hO2.lt g e).1); have HT2 : Hid (w2.heap[w.heap.size]? = some (.cells #[.int .i64 1, .int .i64 f, .slice ia n2 ic, .slice oa m2 oc] 28 (0, 0))) := (hg2.block w.heap.size (by simp) (fun e => by have := HGL.out _ _ w.heap.size e.symm; omega)).trans T1.out; obtain ⟨y0, y1, y2, y3, _⟩ := cells4 HT2.out; have hJ := joinB_any fs.length vc lo va fs f id 0 w2 hfl (Nat.le_trans hlo (Nat.le_trans HB1.out.size hg2.size)) hO2 HFR.out; rw [← HRC.out, ← HRR.out] at hJ; have hs2 : lo ≤ w2.heap.size := Nat.le_trans hlo (Nat.le_trans HB1.out.size hg2.size); clear hO2 hg2)
        | (go_at_call 43; (with_reducible refine hJ.mono ?_); clear hJ; rintro e w3 ⟨ua, uc, rfl, hO3, hg3⟩; have HFI : Hid (TkO w w3 (.returned (.tuple #[.slice ua rr.length uc, .int .i64 rc])) lo rc rr) := ⟨ua, uc, rfl, hO3, HB2.out.trans ((Below.refl lo w2).grown hg3 hs2 (fun g e => (HO2.out.lt g e).1))⟩; clear hO3 hg3))
      exact bodyPost_ret (v := .tuple #[.slice ua rr.length uc, .int .i64 rc]) (by simp [results, Try.results22, go_sem]) rfl HFI.out
    · have e2 : (kd == 2) = false := by simpa using h2
      have e1 : (kd == 1) = false := by simpa using h1
      have hr1 : (w.alloc (.cells #[.int .i64 kd, .int .i64 f, .slice ia n2 ic, .slice oa m2 oc] 28)).ownsRow lo 68 3 (.slice va n vc) n (mcells ms) := h.alloc _
      have T1 : Hid ((w.alloc (.cells #[.int .i64 kd, .int .i64 f, .slice ia n2 ic, .slice oa m2 oc] 28)).heap[w.heap.size]? = some (.cells #[.int .i64 kd, .int .i64 f, .slice ia n2 ic, .slice oa m2 oc] 28 (0, 0))) := heap_alloc_new _ _
      have HB1 : Hid (Below w.heap.size w (w.alloc (.cells #[.int .i64 kd, .int .i64 f, .slice ia n2 ic, .slice oa m2 oc] 28))) := below_box _
      have hG1 : GAt (w.alloc (.cells #[.int .i64 kd, .int .i64 f, .slice ia n2 ic, .slice oa m2 oc] 28)) ia n2 rs := hG.below HB1.out (Nat.le_refl _)
      have hLO := lose_any n vc lo n2 ic va ia ms rs (w.alloc (.cells #[.int .i64 kd, .int .i64 f, .slice ia n2 ic, .slice oa m2 oc] 28)) (by omega) hn2 hr1 hG1 HIG.out
      obtain ⟨fs, hfs⟩ : ∃ f, f = ms.filter (fun m => !memB rs m.2) := ⟨_, rfl⟩
      rw [← hfs] at hLO
      have HFS : Hid (fs = ms.filter (keepM kd f rs)) := by show _ = _; rw [hfs]; exact keep_other (by omega)
      have HFR : Hid (Rises fs) := by rw [hfs]; exact rises_filter hri
      have hfl : fs.length ≤ 8 := by rw [hfs]; exact Nat.le_trans (List.length_filter_le _ _) (by omega)
      clear h hr1 hG hG1 hri hfs
      have hc : takeMR ms kd f rs id = (0, fs) := by
        unfold takeMR
        rw [if_neg (by rintro ⟨q, _⟩; exact h2 q), if_neg h1, ← HFS.out]
      have HRC : Hid (rc = 0) := by show _ = _; rw [HJC.out, hc]
      have HRR : Hid (rr = fs) := by show _ = _; rw [HJR.out, hc]
      clear hc
      go_enter Try.func22, Try.ntmps22
      go_wp2_with (first
        | (go_at_call 42; (with_reducible refine hLO.mono ?_); clear hLO; rintro e w2 ⟨rfl, hO2, hg2⟩; have HO2 : Hid (w2.ownsRow lo 68 3 (.slice va fs.length vc) fs.length (mcells fs)) := hO2; have HB2 : Hid (Below lo w w2) := below_grown HB1.out hlo hg2 (fun g e => (hO2.lt g e).1); have HT2 : Hid (w2.heap[w.heap.size]? = some (.cells #[.int .i64 kd, .int .i64 f, .slice ia n2 ic, .slice oa m2 oc] 28 (0, 0))) := (hg2.block w.heap.size (by simp) (fun e => by have := HGL.out _ _ w.heap.size e.symm; omega)).trans T1.out; obtain ⟨y0, y1, y2, y3, _⟩ := cells4 HT2.out; clear hO2 hg2))
      have HFI : Hid (TkO w w2 (.returned (.tuple #[.slice va fs.length vc, .int .i64 0])) lo rc rr) := by rw [HRC.out, HRR.out]; exact ⟨_, _, rfl, HO2.out, HB2.out⟩
      exact bodyPost_ret (v := .tuple #[.slice va fs.length vc, .int .i64 0]) (by simp [results, Try.results22, go_sem]) rfl HFI.out

end Go.Proofs.Ytgfhnmjpkanikaa
