/- What HasSign answers: the specification's and the program's. -/
import Derived.Test.YtapicejadjeejaaIdOf
namespace Go.Proofs.Ytapicejadjeejaa
open Go.RowKit Go.Maps Go.WideMaps

def hasR (ss : List ByteArray) (gs : List (Int × Int)) (a b : Int) : Bool := if flt ss gs ≠ 0 then false else memB gs (a, b)
theorem hasR_bad {ss : List ByteArray} {gs : List (Int × Int)} {a b c : Int} (h : c = flt ss gs) (h0 : c ≠ 0) : hasR ss gs a b = false := by unfold hasR; rw [← h, if_pos h0]
theorem hasR_ok {ss : List ByteArray} {gs : List (Int × Int)} {a b : Int} (h : 0 = flt ss gs) : hasR ss gs a b = memB gs (a, b) := by unfold hasR; rw [← h, if_neg (by simp)]

/-- What is known behind a call of one block that lies boxed ahead of it. -/
theorem box1_facts {w w2 : World} {a0 a1 : Value} {t : TypeId} (hb : Below (w.alloc (.cells #[a0, a1] t)).heap.size (w.alloc (.cells #[a0, a1] t)) w2) :
    w2.cell? ⟨w.heap.size, 0, none⟩ = some a0 ∧ w2.cell? ⟨w.heap.size, 1, none⟩ = some a1 ∧ Hid (Below w.heap.size w w2) := by
  obtain ⟨x0, x1, _, _, _⟩ := res_cells (heap_alloc_new w (.cells #[a0, a1] t)) hb (by simp)
  exact ⟨x0, x1, (below_box _).trans (hb.mono (by simp))⟩

set_option maxHeartbeats 1000000 in
theorem bookHas_any (pp : Option Addr) (q top : Nat) (gs : List (Int × Int)) (a b : Int) (w : World) (ha : (Lit.int .i64 a).wf = true) (hb : (Lit.int .i64 b).wf = true) (hT : TwG w top q gs) :
    Calls Try.prog 28 #[.agg #[.pointer pp, .pointer (some ⟨q, 0, none⟩)], .int .i64 a, .int .i64 b] w fun e w' => e = .returned (.bool (memB gs (a, b))) ∧ Below w.heap.size w w' := by
  have hbx : Below w.heap.size w (w.alloc (.cells #[.pointer pp, .pointer (some ⟨q, 0, none⟩)] 48)) := below_box _
  have hat := numG_tw ha hb (hT.below (below_box (.cells #[.pointer pp, .pointer (some ⟨q, 0, none⟩)] 48)))
  obtain ⟨s0, s1⟩ := cells2 (heap_alloc_new w (.cells #[.pointer pp, .pointer (some ⟨q, 0, none⟩)] 48))
  obtain ⟨k, hk⟩ : ∃ k, k = num gs (a, b) := ⟨_, rfl⟩
  have hmk : memB gs (a, b) = (k != 0) := by unfold memB; rw [hk]
  rw [← hk] at hat
  rw [hmk]
  have HBX : Hid (Below w.heap.size w (w.alloc (.cells #[.pointer pp, .pointer (some ⟨q, 0, none⟩)] 48))) := hbx
  clear hmk hk hT hbx ha hb
  by_cases hk0 : k = 0
  · subst hk0
    go_enter Try.func28, Try.ntmps28
    go_wp2_with (go_at_call 19; (with_reducible refine hat.mono ?_); clear hat; rintro e w3 ⟨rfl, hb3⟩)
    go_ret
    exact ⟨rfl, HBX.out.trans (hb3.mono HBX.out.size)⟩
  · have hki : (k : Int) ≠ 0 := by omega
    have hkb : (k != 0) = true := by simp [hk0]
    rw [hkb]
    clear hk0 hkb
    go_enter Try.func28, Try.ntmps28
    go_wp2_with (go_at_call 19; (with_reducible refine hat.mono ?_); clear hat; rintro e w3 ⟨rfl, hb3⟩)
    go_ret
    exact ⟨ret_bool (by simp; omega), HBX.out.trans (hb3.mono HBX.out.size)⟩

set_option maxHeartbeats 400000 in
theorem iHasSign_any (n m tc gc : Nat) (ta ga : Option Addr) (ss : List ByteArray) (gs : List (Int × Int)) (a b : Int) (w : World) (ha : (Lit.int .i64 a).wf = true) (hb : (Lit.int .i64 b).wf = true) (hf : Fine ss gs) (h : LedAt w ta n ga m ss gs) :
    Calls Try.prog 8 #[.agg #[.slice ta n tc, .slice ga m gc], .int .i64 a, .int .i64 b] w fun e w' => e = .returned (.bool (hasR ss gs a b)) ∧ Below w.heap.size w w' := by
  have hbx : Below w.heap.size w (w.alloc (.cells #[.slice ta n tc, .slice ga m gc] 27)) := below_box _
  have hrl := readLedger_any n m tc gc ta ga ss gs _ hf.s hf.g (h.s.below hbx (Nat.le_refl _)) (h.g.below hbx (Nat.le_refl _))
  have HA : Hid ((Lit.int .i64 a).wf = true ∧ (Lit.int .i64 b).wf = true) := ⟨ha, hb⟩
  clear hbx h hf ha hb
  obtain ⟨c, hc⟩ : ∃ c, c = flt ss gs := ⟨_, rfl⟩
  by_cases hcz : c = 0
  · subst hcz
    rw [hasR_ok hc]
    have hrl' := hrl.mono fun e w' (hr : RL ss gs _ w' e) => show ∃ p q, e = .returned (.tuple #[.agg #[.pointer (some ⟨p, 0, none⟩), .pointer (some ⟨q, 0, none⟩)], .int .i64 0]) ∧ Below (w.alloc (.cells #[.slice ta n tc, .slice ga m gc] 27)).heap.size (w.alloc (.cells #[.slice ta n tc, .slice ga m gc] 27)) w' ∧ Hid (∃ top, TwG w' top q gs) by
      rcases hr with ⟨hbl, ⟨_, p, q, top, he, h1, h2, h3, h4⟩ | ⟨hn, _⟩⟩
      · exact ⟨p, q, he, hbl, top, h3⟩
      · exact absurd hc.symm hn
    clear hrl hc
    obtain ⟨mb, hmb⟩ : ∃ k, k = memB gs (a, b) := ⟨_, rfl⟩
    have HMB : Hid (memB gs (a, b) = mb) := hmb.symm
    rw [← hmb]
    clear hmb
    go_enter Try.func8, Try.ntmps8
    go_wp2_with (first
      | (go_at_call 16; refine hrl'.mono ?_; rintro e w2 ⟨p, q, rfl, hb2, HT⟩; obtain ⟨p0, p1, HB⟩ := box1_facts hb2; obtain ⟨top, htg⟩ := HT.out; have hat := bookHas_any (some ⟨p, 0, none⟩) q top gs a b _ HA.out.1 HA.out.2 (htg.below (below_box (.cells #[.pointer (some ⟨p, 0, none⟩), .pointer (some ⟨q, 0, none⟩)] 48))); rw [HMB.out] at hat; clear htg)
      | (go_at_call 28; refine hat.mono ?_; rintro e w3 ⟨rfl, hb3⟩))
    go_ret
    exact ⟨rfl, (HB.out.alloc HB.out.size _).trans (hb3.mono (by have := HB.out.size; simp; omega))⟩
  · rw [hasR_bad hc hcz]
    have hrl' := hrl.mono fun e w' (hr : RL ss gs _ w' e) => show e = .returned (.tuple #[.agg #[.pointer none, .pointer none], .int .i64 c]) ∧ Below (w.alloc (.cells #[.slice ta n tc, .slice ga m gc] 27)).heap.size (w.alloc (.cells #[.slice ta n tc, .slice ga m gc] 27)) w' by
      rcases hr with ⟨hbl, ⟨hn, _⟩ | ⟨_, he⟩⟩
      · exact absurd (hc.trans hn) hcz
      · exact ⟨by rw [hc]; exact he, hbl⟩
    clear hrl hc
    go_enter Try.func8, Try.ntmps8
    go_wp2_with (first
      | (go_at_call 16; refine hrl'.mono ?_; rintro e w2 ⟨rfl, hb2⟩; obtain ⟨p0, p1, HB⟩ := box1_facts hb2))
    go_ret
    exact ⟨rfl, HB.out.alloc HB.out.size _⟩

end Go.Proofs.Ytapicejadjeejaa
