/- The program's bench: who is sought by a predicate. -/
import Derived.Test.YtgfhnmjpkanikaaEl
namespace Go.Proofs.Ytgfhnmjpkanikaa
open Go.RowKit Go.Maps Go.WideMaps

/-- The first of those that meet a predicate. -/
def IdxP (ms : List Mb) (n : Nat) (p : Mb → Bool) (i : Int) : Prop := (i = -1 ∧ ∀ t, t < n → p (ms.getD t Z3) = false) ∨ ∃ k : Nat, k < n ∧ i = k ∧ (∀ t, t < k → p (ms.getD t Z3) = false) ∧ p (ms.getD k Z3) = true
def IdxO (w w' : World) (e : Ending) (ms : List Mb) (n : Nat) (p : Mb → Bool) : Prop := ∃ i : Int, e = .returned (.int .i64 i) ∧ IdxP ms n p i ∧ Below w.heap.size w w'

theorem loseC_any (B n2 ic : Nat) (ia : Option Addr) (rs : List (Int × Int)) (k p q : Int) (w : World) (hn2 : n2 ≤ 1048576) (hG : GAt w ia n2 rs) (hB : w.cell? ⟨B, 0, none⟩ = some (.slice ia n2 ic)) (hBl : B < w.heap.size) :
    Calls Try.prog 60 #[.agg #[.int .i64 k, .int .i64 p, .int .i64 q], .pointer (some ⟨B, 0, none⟩)] w fun e w' => e = .returned (.bool (memB rs (p, q))) ∧ Below w.heap.size w w' := by
  have hbx : Below w.heap.size w (w.alloc (.cells #[.int .i64 k, .int .i64 p, .int .i64 q] 68)) := below_box _
  have hA := isAmong_any ia n2 ic rs p q (w.alloc (.cells #[.int .i64 k, .int .i64 p, .int .i64 q] 68)) (by unfold maxLen; omega) (hG.below hbx (Nat.le_refl _))
  have hb := (hbx.cell (p := ⟨B, 0, none⟩) hBl).trans hB
  have HB : Hid (Below w.heap.size w (w.alloc (.cells #[.int .i64 k, .int .i64 p, .int .i64 q] 68))) := hbx
  obtain ⟨r, hr⟩ : ∃ r, r = memB rs (p, q) := ⟨_, rfl⟩
  rw [← hr] at hA ⊢
  clear hr hbx hG hB
  go_enter Try.func60, Try.ntmps60
  go_wp2_with (first | (go_at_call 30; (with_reducible refine hA.mono ?_); clear hA; rintro e w2 ⟨rfl, hb2⟩))
  go_ret
  exact ⟨rfl, HB.out.trans (hb2.mono HB.out.size)⟩
theorem joinC_any (B : Nat) (k p q hp hq : Int) (w : World) (h0 : w.cell? ⟨B, 0, none⟩ = some (.int .i64 hp)) (h1 : w.cell? ⟨B, 1, none⟩ = some (.int .i64 hq)) (hBl : B < w.heap.size) :
    Calls Try.prog 62 #[.agg #[.int .i64 k, .int .i64 p, .int .i64 q], .pointer (some ⟨B, 0, none⟩)] w fun e w' => e = .returned (.bool (decide ((p, q) = (hp, hq)))) ∧ Below w.heap.size w w' := by
  have hbx : Below w.heap.size w (w.alloc (.cells #[.int .i64 k, .int .i64 p, .int .i64 q] 68)) := below_box _
  have b0 := (hbx.cell (p := ⟨B, 0, none⟩) hBl).trans h0
  have b1 := (hbx.cell (p := ⟨B, 1, none⟩) hBl).trans h1
  have HB : Hid (Below w.heap.size w (w.alloc (.cells #[.int .i64 k, .int .i64 p, .int .i64 q] 68))) := hbx
  clear hbx h0 h1
  by_cases hst : p = hp ∧ q = hq
  · rw [decide_eq_true (by rw [hst.1, hst.2])]
    have e1 : (p == hp) = true := by simpa using hst.1
    have e2 : (q == hq) = true := by simpa using hst.2
    clear hst
    go_enter Try.func62, Try.ntmps62
    go_wp2
    go_ret
    exact ⟨ret_bool (by simp), HB.out⟩
  · rw [decide_eq_false (fun e => hst (by cases e; exact ⟨rfl, rfl⟩))]
    by_cases h1 : p = hp
    · have e1 : (p == hp) = true := by simpa using h1
      have e2 : (q == hq) = false := by simpa using fun e => hst ⟨h1, e⟩
      clear hst h1
      go_enter Try.func62, Try.ntmps62
      go_wp2
      go_ret
      exact ⟨ret_bool (by simp), HB.out⟩
    · have e1 : (p == hp) = false := by simpa using h1
      clear hst h1
      go_enter Try.func62, Try.ntmps62
      go_wp2
      go_ret
      exact ⟨ret_bool (by simp), HB.out⟩

set_option maxRecDepth 20000 in
set_option maxHeartbeats 2000000 in
theorem idxLose_any (n c B : Nat) (a : Option Addr) (ms : List Mb) (n2 ic : Nat) (ia : Option Addr) (rs : List (Int × Int)) (w : World) (hn : n ≤ 1000) (hC : MAt w a n ms) (hn2 : n2 ≤ 1048576) (hG : GAt w ia n2 rs) (hB : w.cell? ⟨B, 0, none⟩ = some (.slice ia n2 ic)) (hBl : B < w.heap.size) :
    Calls Try.prog 71 #[.slice a n c, .func (.func 60) #[] #[.pointer (some ⟨B, 0, none⟩)]] w fun e w' => IdxO w w' e ms n (fun m : Mb => memB rs m.2) := by
  have HC : Hid (MAt w a n ms) := hC
  have HN : Hid (ms.length = n) := hC.1
  have HCA : Hid (∀ W (m : Mb), Below w.heap.size w W → Calls Try.prog 60 #[.agg #[.int .i64 m.1, .int .i64 m.2.1, .int .i64 m.2.2], .pointer (some ⟨B, 0, none⟩)] W fun e w' => e = .returned (.bool ((fun m : Mb => memB rs m.2) m)) ∧ Below W.heap.size W w') := fun W m hW => loseC_any B n2 ic ia rs m.1 m.2.1 m.2.2 W hn2 (hG.below hW (Nat.le_refl _)) ((hW.cell (p := ⟨B, 0, none⟩) hBl).trans hB) (Nat.lt_of_lt_of_le hBl hW.size)
  obtain ⟨pd, hpd⟩ : ∃ q : Mb → Bool, q = (fun m : Mb => memB rs m.2) := ⟨_, rfl⟩
  rw [← hpd] at HCA ⊢
  clear hC hpd
  go_enter Try.func71, Try.ntmps71
  go_wp2
  go_loopw [8] (fun i wr => ∃ j : Nat, j ≤ n ∧ i = .int .i64 j ∧ Below w.heap.size w wr ∧ Hid (∀ t, t < j → pd (ms.getD t Z3) = false)) (fun i _ => n - (intOf i).toNat)
  case atStart => exact ⟨0, Nat.zero_le _, rfl, Below.refl _ _, fun t ht => by omega⟩
  case round =>
    obtain ⟨j, hj, rfl, hbel, HI⟩ := hrel
    by_cases hlt : j < n
    · rcases HC.out.2 with h0 | ⟨b, off, e0, l0, d0⟩
      · omega
      subst e0
      obtain ⟨o, ho⟩ : ∃ o, o = ms.getD j Z3 := ⟨_, rfl⟩
      have p0 := d0 j hlt
      rw [← ho] at p0
      have HS : Hid (o = ms.getD j Z3) := ho
      have hca := HCA.out wr o hbel
      obtain ⟨mb, hmb⟩ : ∃ b, b = pd o := ⟨_, rfl⟩
      rw [← hmb] at hca
      have HMB : Hid (mb = pd o) := hmb
      obtain ⟨nk, np, nq⟩ := o
      simp only at hca
      have x0 := (hbel.cell (p := ⟨b, off + j * 3, none⟩) l0).trans p0.1
      have x1 := (hbel.cell (p := ⟨b, off + j * 3 + 1, none⟩) l0).trans p0.2.1
      have x2 := (hbel.cell (p := ⟨b, off + j * 3 + 2, none⟩) l0).trans p0.2.2
      simp only at x0 x1 x2
      have hki : (j : Int) < (n : Int) := by omega
      clear d0 ho p0 hmb
      cases mb
      · have HIN : Hid (∀ t, t < j + 1 → pd (ms.getD t Z3) = false) := fun t ht => by
          rcases Nat.lt_or_ge t j with h1 | h1
          · exact HI.out t h1
          · obtain rfl : t = j := by omega
            rw [← HS.out]; exact HMB.out.symm
        go_wp2_with (first | (go_at_call 60; (with_reducible refine hca.mono ?_); clear hca; rintro e w2 ⟨rfl, hb2⟩))
        go_roundw
        case rel => exact ⟨j + 1, by omega, by go_num, hbel.trans (hb2.mono hbel.size), HIN⟩
        case measure => simp [intOf]; omega
      · have HFI : Hid (IdxP ms n pd (j : Int)) := .inr ⟨j, hlt, rfl, HI.out, by rw [← HS.out]; exact HMB.out.symm⟩
        go_wp2_with (first | (go_at_call 60; (with_reducible refine hca.mono ?_); clear hca; rintro e w2 ⟨rfl, hb2⟩))
        go_ret
        exact ⟨_, rfl, HFI.out, hbel.trans (hb2.mono hbel.size)⟩
    · have HFI : Hid (IdxP ms n pd (-1)) := .inl ⟨rfl, fun t ht => HI.out t (by omega)⟩
      go_wp2
      go_ret
      exact ⟨_, rfl, HFI.out, hbel⟩

set_option maxRecDepth 20000 in
set_option maxHeartbeats 2000000 in
theorem idxJoin_any (n c B : Nat) (a : Option Addr) (ms : List Mb) (hp hq : Int) (w : World) (hn : n ≤ 1000) (hC : MAt w a n ms) (h0 : w.cell? ⟨B, 0, none⟩ = some (.int .i64 hp)) (h1 : w.cell? ⟨B, 1, none⟩ = some (.int .i64 hq)) (hBl : B < w.heap.size) :
    Calls Try.prog 71 #[.slice a n c, .func (.func 62) #[] #[.pointer (some ⟨B, 0, none⟩)]] w fun e w' => IdxO w w' e ms n (fun m : Mb => decide (m.2 = (hp, hq))) := by
  have HC : Hid (MAt w a n ms) := hC
  have HN : Hid (ms.length = n) := hC.1
  have HCA : Hid (∀ W (m : Mb), Below w.heap.size w W → Calls Try.prog 62 #[.agg #[.int .i64 m.1, .int .i64 m.2.1, .int .i64 m.2.2], .pointer (some ⟨B, 0, none⟩)] W fun e w' => e = .returned (.bool ((fun m : Mb => decide (m.2 = (hp, hq))) m)) ∧ Below W.heap.size W w') := fun W m hW => joinC_any B m.1 m.2.1 m.2.2 hp hq W ((hW.cell (p := ⟨B, 0, none⟩) hBl).trans h0) ((hW.cell (p := ⟨B, 1, none⟩) hBl).trans h1) (Nat.lt_of_lt_of_le hBl hW.size)
  obtain ⟨pd, hpd⟩ : ∃ q : Mb → Bool, q = (fun m : Mb => decide (m.2 = (hp, hq))) := ⟨_, rfl⟩
  rw [← hpd] at HCA ⊢
  clear hC hpd
  go_enter Try.func71, Try.ntmps71
  go_wp2
  go_loopw [8] (fun i wr => ∃ j : Nat, j ≤ n ∧ i = .int .i64 j ∧ Below w.heap.size w wr ∧ Hid (∀ t, t < j → pd (ms.getD t Z3) = false)) (fun i _ => n - (intOf i).toNat)
  case atStart => exact ⟨0, Nat.zero_le _, rfl, Below.refl _ _, fun t ht => by omega⟩
  case round =>
    obtain ⟨j, hj, rfl, hbel, HI⟩ := hrel
    by_cases hlt : j < n
    · rcases HC.out.2 with h0 | ⟨b, off, e0, l0, d0⟩
      · omega
      subst e0
      obtain ⟨o, ho⟩ : ∃ o, o = ms.getD j Z3 := ⟨_, rfl⟩
      have p0 := d0 j hlt
      rw [← ho] at p0
      have HS : Hid (o = ms.getD j Z3) := ho
      have hca := HCA.out wr o hbel
      obtain ⟨mb, hmb⟩ : ∃ b, b = pd o := ⟨_, rfl⟩
      rw [← hmb] at hca
      have HMB : Hid (mb = pd o) := hmb
      obtain ⟨nk, np, nq⟩ := o
      simp only at hca
      have x0 := (hbel.cell (p := ⟨b, off + j * 3, none⟩) l0).trans p0.1
      have x1 := (hbel.cell (p := ⟨b, off + j * 3 + 1, none⟩) l0).trans p0.2.1
      have x2 := (hbel.cell (p := ⟨b, off + j * 3 + 2, none⟩) l0).trans p0.2.2
      simp only at x0 x1 x2
      have hki : (j : Int) < (n : Int) := by omega
      clear d0 ho p0 hmb
      cases mb
      · have HIN : Hid (∀ t, t < j + 1 → pd (ms.getD t Z3) = false) := fun t ht => by
          rcases Nat.lt_or_ge t j with h1 | h1
          · exact HI.out t h1
          · obtain rfl : t = j := by omega
            rw [← HS.out]; exact HMB.out.symm
        go_wp2_with (first | (go_at_call 62; (with_reducible refine hca.mono ?_); clear hca; rintro e w2 ⟨rfl, hb2⟩))
        go_roundw
        case rel => exact ⟨j + 1, by omega, by go_num, hbel.trans (hb2.mono hbel.size), HIN⟩
        case measure => simp [intOf]; omega
      · have HFI : Hid (IdxP ms n pd (j : Int)) := .inr ⟨j, hlt, rfl, HI.out, by rw [← HS.out]; exact HMB.out.symm⟩
        go_wp2_with (first | (go_at_call 62; (with_reducible refine hca.mono ?_); clear hca; rintro e w2 ⟨rfl, hb2⟩))
        go_ret
        exact ⟨_, rfl, HFI.out, hbel.trans (hb2.mono hbel.size)⟩
    · have HFI : Hid (IdxP ms n pd (-1)) := .inl ⟨rfl, fun t ht => HI.out t (by omega)⟩
      go_wp2
      go_ret
      exact ⟨_, rfl, HFI.out, hbel⟩

theorem hasRef_any (n c B : Nat) (a : Option Addr) (ms : List Mb) (hp hq : Int) (w : World) (hn : n ≤ 1000) (hC : MAt w a n ms) (h0 : w.cell? ⟨B, 0, none⟩ = some (.int .i64 hp)) (h1 : w.cell? ⟨B, 1, none⟩ = some (.int .i64 hq)) (hBl : B < w.heap.size) :
    Calls Try.prog 61 #[.slice a n c, .func (.func 62) #[] #[.pointer (some ⟨B, 0, none⟩)]] w fun e w' => e = .returned (.bool (ms.any fun m => decide (m.2 = (hp, hq)))) ∧ Below w.heap.size w w' := by
  have hI := idxJoin_any n c B a ms hp hq w hn hC h0 h1 hBl
  have HN : Hid (ms.length = n) := hC.1
  obtain ⟨r, hr⟩ : ∃ r, r = (ms.any fun m => decide (m.2 = (hp, hq))) := ⟨_, rfl⟩
  rw [← hr]
  have HR : Hid (r = (ms.any fun m => decide (m.2 = (hp, hq)))) := hr
  clear hr hC h0 h1
  go_enter Try.func61, Try.ntmps61
  go_wp2_with (fail)
  refine hI.mono ?_
  clear hI
  rintro e w2 ⟨i, rfl, hi, hb2⟩
  rcases hi with ⟨rfl, h⟩ | ⟨k, hk, rfl, _, h⟩
  · obtain rfl : r = false := by rw [HR.out]; exact none_ref HN.out (fun t ht e => absurd e (of_decide_eq_false (h t ht)))
    clear h
    go_wp2
    go_ret
    exact ⟨rfl, hb2⟩
  · obtain rfl : r = true := by rw [HR.out]; exact any_ref HN.out hk (of_decide_eq_true h)
    have hk0 : (0 : Int) ≤ (k : Int) := by omega
    clear h
    go_wp2
    go_ret
    exact ⟨rfl, hb2⟩

end Go.Proofs.Ytgfhnmjpkanikaa
