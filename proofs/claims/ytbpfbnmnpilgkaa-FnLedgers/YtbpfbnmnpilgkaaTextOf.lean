/- What TextOf and HasSign answer: the specification's and the program's. -/
import Derived.Test.YtbpfbnmnpilgkaaIdOf
namespace Go.Proofs.Ytbpfbnmnpilgkaa
open Go.RowKit Go.Maps Go.WideMaps

/-- Code and text of a number. -/
def textR (ss : List ByteArray) (gs : List (Int × Int)) (id : Int) : Int × ByteArray := if flt ss gs ≠ 0 then (flt ss gs, (⟨#[]⟩ : ByteArray)) else if inB id 1 ss.length = false then (3, (⟨#[]⟩ : ByteArray)) else (0, ss.getD (id - 1).toNat E0)

theorem textR_bad {ss : List ByteArray} {gs : List (Int × Int)} {id : Int} {c : Int} (h : c = flt ss gs) (h0 : c ≠ 0) : textR ss gs id = (c, (⟨#[]⟩ : ByteArray)) := by unfold textR; rw [← h, if_pos h0]
theorem textR_ok {ss : List ByteArray} {gs : List (Int × Int)} {id : Int} {n : Nat} (hn : ss.length = n) (h : 0 = flt ss gs) (h0 : inB id 1 n = true) {s : ByteArray} (hs : s = ss.getD (id - 1).toNat E0) : textR ss gs id = (0, s) := by unfold textR; rw [← h, if_neg (by simp), hn, if_neg (by rw [h0]; simp), hs]

theorem l1Id_any (L n tc : Nat) (ta : Option Addr) (id : Int) (w : World) (hT : w.cell? ⟨L, 0, none⟩ = some (.slice ta n tc)) :
    Calls Try.prog 40 #[.pointer (some ⟨L, 0, none⟩), .int .i64 id] w fun e w' => e = .returned (.bool (inB id 1 n)) ∧ w' = w := by
  go_enter Try.func40, Try.ntmps40
  go_wp2_with (go_at_call 31; refine (l1In_any _ _ _ _).mono ?_; rintro e w' ⟨rfl, hw⟩; have hw2 := hw.symm; subst hw2)
  go_ret
  exact ⟨rfl, rfl⟩

theorem hasNumber_any (p n cap : Nat) (a : Option Addr) (id : Int) (w : World) (hI : w.cell? ⟨p, 0, none⟩ = some (.slice a n cap)) :
    Calls Try.prog 33 #[.pointer (some ⟨p, 0, none⟩), .int .i64 id] w fun e w' => e = .returned (.bool (inB id 1 n)) ∧ w' = w := by
  go_enter Try.func33, Try.ntmps33
  go_wp2_with (first
    | (go_at_call 18; refine (countS_any p n cap a w hI).mono ?_; rintro e w' ⟨rfl, hw⟩; have hw2 := hw.symm; subst hw2)
    | (go_at_call 29; refine (isWithin_any _ _ _ _).mono ?_; rintro e w' ⟨rfl, hw⟩; have hw2 := hw.symm; subst hw2))
  go_ret
  exact ⟨rfl, rfl⟩

/-- The cell of a number's text. -/
theorem cell_of_id {w : World} {a : Option Addr} {n : Nat} {ss : List ByteArray} {id : Int} (h : SAt w a n ss) (hi : inB id 1 n = true) :
    ∃ b off k : Nat, a = some ⟨b, off, none⟩ ∧ id = (k : Int) + 1 ∧ k < n ∧ w.cell? ⟨b, off + k, none⟩ = some (.string (ss.getD (id - 1).toNat E0)) ∧ b < w.heap.size := by
  have hi' := inB_true.1 hi
  rcases h.2 with h0 | ⟨b, off, rfl, hb, hc⟩
  · omega
  · refine ⟨b, off, (id - 1).toNat, rfl, by omega, by omega, hc _ (by omega), hb⟩

theorem itemOf_any (p n cap : Nat) (a : Option Addr) (ss : List ByteArray) (id : Int) (w : World) (hn : n ≤ 60) (hI : w.cell? ⟨p, 0, none⟩ = some (.slice a n cap)) (hs : SAt w a n ss) (hi : inB id 1 n = true) :
    Calls Try.prog 34 #[.pointer (some ⟨p, 0, none⟩), .int .i64 id] w fun e w' => e = .returned (.string (ss.getD (id - 1).toNat E0)) ∧ w' = w := by
  have hhas := hasNumber_any p n cap a id w hI
  rw [hi] at hhas
  obtain ⟨b, off, k, rfl, hid, hk, hc, _⟩ := cell_of_id hs hi
  obtain ⟨s, hse⟩ : ∃ s, s = ss.getD (id - 1).toNat E0 := ⟨_, rfl⟩
  rw [← hse] at hc ⊢
  clear hse hs hi
  subst hid
  have hki : (k : Int) < (n : Int) := by omega
  go_enter Try.func34, Try.ntmps34
  go_wp2_with (first
    | (go_at_call 33; refine hhas.mono ?_; rintro e w' ⟨rfl, hw⟩; have hw2 := hw.symm; subst hw2))
  go_ret
  exact ⟨rfl, rfl⟩

/-- What the texts' table gives where one block more has been laid. -/
theorem tw_items {w2 : World} {base p : Nat} {ss : List ByteArray} {n : Nat} {o : Obj} (hn : ss.length = n) (h : TwS w2 base p ss) : ∃ a cap, (w2.alloc o).cell? ⟨p, 0, none⟩ = some (.slice a n cap) ∧ Hid (SAt (w2.alloc o) a n ss) := by
  obtain ⟨a, cap, h1, _, _, h2⟩ := (h.below (below_box o)).items
  rw [hn] at h1 h2
  exact ⟨a, cap, h1, h2⟩

theorem flt_le {ss : List ByteArray} {gs : List (Int × Int)} (h : 0 = flt ss gs) : ss.length ≤ 60 ∧ gs.length ≤ 120 := by
  by_cases hb : 60 < ss.length ∨ 120 < gs.length
  · rw [flt_many rfl rfl hb] at h; omega
  · omega

/-- What a book answers, read already. -/
def tx2R (ss : List ByteArray) (id : Int) : Int × ByteArray := if inB id 1 ss.length = false then (3, (⟨#[]⟩ : ByteArray)) else (0, ss.getD (id - 1).toNat E0)
theorem textR_two {ss : List ByteArray} {gs : List (Int × Int)} {id : Int} (h : 0 = flt ss gs) : textR ss gs id = tx2R ss id := by unfold textR tx2R; rw [← h, if_neg (by simp)]

set_option maxHeartbeats 400000 in
theorem bTextOf_any (p q n ic : Nat) (ia : Option Addr) (ss : List ByteArray) (id : Int) (w : World) (hn60 : n ≤ 60) (hn : ss.length = n) (hI0 : w.cell? ⟨p, 0, none⟩ = some (.slice ia n ic)) (hS0 : SAt w ia n ss) (hp : p < w.heap.size) :
    Calls Try.prog 24 #[.agg #[.pointer (some ⟨p, 0, none⟩), .pointer (some ⟨q, 0, none⟩)], .int .i64 id] w fun e w' => e = .returned (.agg #[.int .i64 (tx2R ss id).1, .string (tx2R ss id).2]) ∧ Below w.heap.size w w' := by
  have hbx : Below w.heap.size w ((w.alloc (.cells #[.pointer (some ⟨p, 0, none⟩), .pointer (some ⟨q, 0, none⟩)] 48)).alloc (.cells #[.int .i64 0, .string (⟨#[]⟩ : ByteArray)] 37)) := below_box2 _ _
  have hI := (hbx.cell (p := ⟨p, 0, none⟩) hp).trans hI0
  have hS := hS0.below hbx (Nat.le_refl _)
  have hat := hasNumber_any p n ic ia id _ hI
  by_cases hi : inB id 1 n = true
  · obtain ⟨s, hs⟩ : ∃ s, s = ss.getD (id - 1).toNat E0 := ⟨_, rfl⟩
    have hr : tx2R ss id = (0, s) := by unfold tx2R; rw [hn, if_neg (by rw [hi]; simp), hs]
    rw [hr]
    rw [hi] at hat
    have hit := itemOf_any p n ic ia ss id _ hn60 hI hS hi
    rw [← hs] at hit
    clear hr hs hi hbx hI hS hI0 hS0
    go_enter Try.func24, Try.ntmps24
    go_wp2_with (first
      | (go_at_call 33; (with_reducible refine hat.mono ?_); clear hat; rintro e w3 ⟨rfl, hw⟩; subst hw)
      | (go_at_call 34; (with_reducible refine hit.mono ?_); clear hit; rintro e w3 ⟨rfl, hw⟩; subst hw))
    obtain ⟨s0, s1⟩ := cells2 (show ((w.alloc (.cells #[.pointer (some ⟨p, 0, none⟩), .pointer (some ⟨q, 0, none⟩)] 48)).alloc (.cells #[.int .i64 0, .string s] 37)).heap[w.heap.size + 1]? = some (.cells #[.int .i64 0, .string s] 37 (0, 0)) from by rw [show w.heap.size + 1 = (w.alloc (.cells #[.pointer (some ⟨p, 0, none⟩), .pointer (some ⟨q, 0, none⟩)] 48)).heap.size by simp]; exact heap_alloc_new _ _)
    exact bodyPost_ret (v := .agg #[.int .i64 0, .string s]) (by simp [results, Try.results24, go_sem, s0, s1]) rfl ⟨rfl, below_box2 _ _⟩
  · have hi' : inB id 1 n = false := by simpa using hi
    have hr : tx2R ss id = (3, (⟨#[]⟩ : ByteArray)) := by unfold tx2R; rw [hn, if_pos hi']
    rw [hr]
    rw [hi'] at hat
    clear hr hi hi' hbx hI hS hI0 hS0
    go_enter Try.func24, Try.ntmps24
    go_wp2_with (first
      | (go_at_call 33; (with_reducible refine hat.mono ?_); clear hat; rintro e w3 ⟨rfl, hw⟩; subst hw))
    obtain ⟨s0, s1⟩ := cells2 (show ((w.alloc (.cells #[.pointer (some ⟨p, 0, none⟩), .pointer (some ⟨q, 0, none⟩)] 48)).alloc (.cells #[.int .i64 3, .string (⟨#[]⟩ : ByteArray)] 37)).heap[w.heap.size + 1]? = some (.cells #[.int .i64 3, .string (⟨#[]⟩ : ByteArray)] 37 (0, 0)) from by rw [show w.heap.size + 1 = (w.alloc (.cells #[.pointer (some ⟨p, 0, none⟩), .pointer (some ⟨q, 0, none⟩)] 48)).heap.size by simp]; exact heap_alloc_new _ _)
    exact bodyPost_ret (v := .agg #[.int .i64 3, .string (⟨#[]⟩ : ByteArray)]) (by simp [results, Try.results24, go_sem, s0, s1]) rfl ⟨rfl, below_box2 _ _⟩

set_option maxHeartbeats 400000 in
theorem iTextOf_any (n m tc gc : Nat) (ta ga : Option Addr) (ss : List ByteArray) (gs : List (Int × Int)) (id : Int) (w : World) (hf : Fine ss gs) (h : LedAt w ta n ga m ss gs) :
    Calls Try.prog 9 #[.agg #[.slice ta n tc, .slice ga m gc], .int .i64 id] w fun e w' => e = .returned (.agg #[.int .i64 (textR ss gs id).1, .string (textR ss gs id).2]) ∧ Below w.heap.size w w' := by
  obtain ⟨c, hc⟩ : ∃ c, c = flt ss gs := ⟨_, rfl⟩
  have HN : Hid (ss.length = n) := h.s.1
  by_cases hcz : c = 0
  · subst hcz
    have hrd := read_ok (tc := tc) (gc := gc) (b0 := .int .i64 0) (b1 := .string (⟨#[]⟩ : ByteArray)) (t' := 37) hf h hc
    have hn60 : n ≤ 60 := by have := flt_le hc; rw [HN.out] at this; omega
    rw [textR_two hc]
    clear h hf hc
    obtain ⟨rc, hrc⟩ : ∃ r, r = (tx2R ss id).1 := ⟨_, rfl⟩
    obtain ⟨rs, hrs⟩ : ∃ r, r = (tx2R ss id).2 := ⟨_, rfl⟩
    rw [← hrc, ← hrs]
    have HT0 : Hid ((tx2R ss id).1 = rc ∧ (tx2R ss id).2 = rs) := ⟨hrc.symm, hrs.symm⟩
    clear hrc hrs
    go_enter Try.func9, Try.ntmps9
    go_wp2_with (first
      | (go_at_call 15; (with_reducible refine hrd.mono ?_); clear hrd; rintro e w2 ⟨p, q, top, rfl, hb2, HT⟩; obtain ⟨p0, p1, q0, q1, q2, q3, HB⟩ := box2_facts hb2; obtain ⟨r0, r1, r2, r3, HR⟩ := box2_more (o := .cells #[.pointer (some ⟨p, 0, none⟩), .pointer (some ⟨q, 0, none⟩)] 48) ⟨HB.out.1, HB.out.2.1⟩; obtain ⟨ia, ic, hI, HSA⟩ := tw_items (o := .cells #[.pointer (some ⟨p, 0, none⟩), .pointer (some ⟨q, 0, none⟩)] 48) HN.out HT.out.1; have hat := bTextOf_any p q n ic ia ss id _ hn60 HN.out hI HSA.out (World.block_lt_of_cell? _ _ hI); rw [HT0.out.1, HT0.out.2] at hat; clear p0 p1 q0 q1 q2 q3 hb2 hI)
      | (go_at_call 24; (with_reducible refine hat.mono ?_); clear hat; rintro e w3 ⟨rfl, hb3⟩; clear r0 r1 r2 r3; have HR3 : Hid (Below w.heap.size w w3) := HR.out.2.trans (hb3.mono HR.out.2.size); obtain ⟨r0, r1, r2, r3, HR4⟩ := res_cells HR.out.1 hb3 (lt_of_block HR.out.1); clear hb3))
    obtain ⟨s0, s1, s2⟩ := two_set HR4.out (.int .i64 rc) (.string rs)
    exact bodyPost_ret (v := .agg #[.int .i64 rc, .string rs]) (by simp [results, Try.results9, go_sem, s0, s1]) rfl ⟨rfl, below_res HR3.out _ _⟩
  · have hrd := read_bad (tc := tc) (gc := gc) (b0 := .int .i64 0) (b1 := .string (⟨#[]⟩ : ByteArray)) (t' := 37) hf h hc hcz
    rw [textR_bad hc hcz]
    clear hc h hf
    go_enter Try.func9, Try.ntmps9
    go_wp2_with (first
      | (go_at_call 15; refine hrd.mono ?_; rintro e w2 ⟨rfl, hb2⟩; obtain ⟨p0, p1, q0, q1, q2, q3, HB⟩ := box2_facts hb2; obtain ⟨r0, r1, r2, r3, HR⟩ := box2_more (o := .cells #[.pointer none, .pointer none] 48) ⟨HB.out.1, HB.out.2.1⟩; clear p0 p1 q0 q1 q2 q3 hb2))
    obtain ⟨s0, s1, s2⟩ := two_set HR.out.1 (.int .i64 c) (.string (⟨#[]⟩ : ByteArray))
    exact bodyPost_ret (v := .agg #[.int .i64 c, .string (⟨#[]⟩ : ByteArray)]) (by simp [results, Try.results9, go_sem, s0, s1]) rfl ⟨rfl, below_res HR.out.2 _ _⟩

end Go.Proofs.Ytbpfbnmnpilgkaa
