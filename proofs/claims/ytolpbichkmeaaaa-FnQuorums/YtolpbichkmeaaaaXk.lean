/- The program's ChooseQuorum. -/
import Derived.Test.YtolpbichkmeaaaaXj
import Derived.Test.YtolpbichkmeaaaaXb
import Derived.Test.YtolpbichkmeaaaaXh
namespace Go.Proofs.Ytolpbichkmeaaaa
open Go.RowKit Go.Maps Go.WideMaps Go.Shelf

theorem rankOrder_any (s : Int) (w : World) :
    Calls Try.prog 29 #[.int .i64 s] w fun e w' => e = .returned (.func (.func 54) #[] #[.pointer (some ⟨w.heap.size, 0, none⟩)]) ∧ w' = w.alloc (.cells #[.int .i64 s] 2) := by
  have hmf : ∀ (fn : Fn) (first cap : Array Value) (w : World), (Instr.makeFunc fn first cap).run Try.prog w = .ok (.func fn first cap) w := fun _ _ _ _ => rfl
  go_enter Try.func29, Try.ntmps29
  go_wp2
  go_ret
  exact ⟨rfl, rfl⟩

set_option maxRecDepth 20000 in
set_option maxHeartbeats 1000000 in
theorem hasTwins_any (l : List Int) (n : Nat) (w : World) (hn : l.length = n) (h8 : n ≤ 8) :
    Calls Try.prog 52 #[.agg #[.int .i64 (lkAt l 0), .int .i64 (lkAt l 1), .int .i64 (lkAt l 2), .int .i64 (lkAt l 3), .int .i64 (lkAt l 4), .int .i64 (lkAt l 5), .int .i64 (lkAt l 6), .int .i64 (lkAt l 7), .int .i64 (n : Int)]] w fun e w' => e = .returned (.bool (!(riseB 0 ((srt cmpI l n).take n)))) ∧ Below w.heap.size w w' := by
  have hbx : Below w.heap.size w (w.alloc (.cells #[.int .i64 (lkAt l 0), .int .i64 (lkAt l 1), .int .i64 (lkAt l 2), .int .i64 (lkAt l 3), .int .i64 (lkAt l 4), .int .i64 (lkAt l 5), .int .i64 (lkAt l 6), .int .i64 (lkAt l 7), .int .i64 (n : Int)] 54)) := below_box _
  have hs := sortedBy_any n 31 #[] cmpI l (w.alloc (.cells #[.int .i64 (lkAt l 0), .int .i64 (lkAt l 1), .int .i64 (lkAt l 2), .int .i64 (lkAt l 3), .int .i64 (lkAt l 4), .int .i64 (lkAt l 5), .int .i64 (lkAt l 6), .int .i64 (lkAt l 7), .int .i64 (n : Int)] 54)) (by omega) h8 (cmpOk_nums _)
  have HLN : Hid ((srt cmpI l n).length = n) := by show _ = _; rw [srt_length, hn]
  have HB : Hid (Below w.heap.size w (w.alloc (.cells #[.int .i64 (lkAt l 0), .int .i64 (lkAt l 1), .int .i64 (lkAt l 2), .int .i64 (lkAt l 3), .int .i64 (lkAt l 4), .int .i64 (lkAt l 5), .int .i64 (lkAt l 6), .int .i64 (lkAt l 7), .int .i64 (n : Int)] 54))) := hbx
  have HT : Hid (((srt cmpI l n).take n).length = n) := by show _ = _; rw [List.length_take, HLN.out]; omega
  obtain ⟨r, hr⟩ : ∃ r, r = riseB 0 ((srt cmpI l n).take n) := ⟨_, rfl⟩
  have HR : Hid (riseB 0 ((srt cmpI l n).take n) = r) := hr.symm
  rw [← hr]
  clear hbx hr
  go_enter Try.func52, Try.ntmps52
  go_wp2_with (first
    | (go_at_call 28; (with_reducible refine hs.mono ?_); clear hs; rintro e w2 ⟨rfl, hb2⟩; have HB2 : Hid (Below w.heap.size w w2) := HB.out.trans (hb2.mono HB.out.size); have hli := list_any (srt cmpI l n) n w2 (by rw [HLN.out]; exact Nat.le_refl _) h8; clear hb2)
    | (go_at_call 32; (with_reducible refine hli.mono ?_); clear hli; rintro e w3 ⟨g, k, rfl, ho3, hb3⟩; have HB3 : Hid (Below w.heap.size w w3) := HB2.out.trans (hb3.mono HB2.out.size); have HI3 : Hid (IAt w3 (some ⟨g, 0, none⟩) n ((srt cmpI l n).take n)) := IAt.owned ho3 HT.out; have hv := iValuesQ_any (some ⟨g, 0, none⟩) n k w3; clear ho3 hb3)
    | (go_at_call 43; (with_reducible refine hv.mono ?_); clear hv; rintro e w4 ⟨rfl, hw4⟩; have hrs := keysRiseQ_any w3.heap.size n k (some ⟨g, 0, none⟩) ((srt cmpI l n).take n) w3 w4 (by omega) HI3.out (by rw [hw4]; exact below_box _) (by rw [hw4]; simp) (by rw [hw4]; exact (new1 w3 _ _).1); rw [HR.out] at hrs; have HB4 : Hid (Below w.heap.size w w4) := (by show Below _ _ _; rw [hw4]; exact HB3.out.trans ((below_box _).mono HB3.out.size)); clear hw4)
    | (go_at_call 45; (with_reducible refine hrs.mono ?_); clear hrs; rintro e w5 ⟨rfl, hb5⟩; have HB5 : Hid (Below w.heap.size w w5) := HB4.out.trans (hb5.mono HB4.out.size)))
  go_ret
  exact ⟨rfl, HB5.out⟩

/-- What keeps a quorum from being chosen. -/
def chR (l : List Int) (s m : Int) : Int :=
  if 8 < l.length then 2 else if allK l = false ∨ inB s 0 65535 = false ∨ inB m 1 8 = false then 3 else if riseB 0 ((srt cmpI l l.length).take l.length) = false then 7 else if (l.length : Int) < m then 4 else 0
def choL (l : List Int) (s : Int) (m : Nat) : List Int := (srt cmpI (srt (rcmp s) l l.length) m).take m
def choR (l : List Int) (s m : Int) : Int × List Int × Int := if chR l s m ≠ 0 then (chR l s m, [], 0) else (0, choL l s m.toNat, (needR m).2)
/-- What a result with a quorum is: its keys lie in new memory. -/
def OutQ (w w' : World) (e : Ending) (c : Int) (l : List Int) (d : Int) : Prop :=
  Below w.heap.size w w' ∧ ∃ a cap, e = .returned (.agg #[.int .i64 c, .slice a l.length cap, .int .i64 d]) ∧ w'.ownsRow w.heap.size 2 1 (.slice a l.length cap) l.length (ints l)
theorem OutQ.empty {w w' : World} {c : Int} (h : Below w.heap.size w w') : OutQ w w' (.returned (.agg #[.int .i64 c, .slice none 0 0, .int .i64 0])) c [] 0 := ⟨h, none, 0, rfl, World.ownsRow_nil _ _ _ _⟩

set_option maxRecDepth 20000 in
set_option maxHeartbeats 2000000 in
theorem chooseFault_any (a : Option Addr) (n c : Nat) (l : List Int) (s m : Int) (w : World) (hl : n ≤ maxLen) (hI : IAt w a n l) :
    Calls Try.prog 26 #[.slice a n c, .int .i64 s, .int .i64 m] w fun e w' => e = .returned (.int .i64 (chR l s m)) ∧ Below w.heap.size w w' := by
  unfold maxLen at hl
  have HN : Hid (l.length = n) := hI.1
  have HI : Hid (IAt w a n l) := hI
  obtain ⟨ka, hka⟩ : ∃ b, b = allK l := ⟨_, rfl⟩
  obtain ⟨ks, hks⟩ : ∃ b, b = inB s 0 65535 := ⟨_, rfl⟩
  obtain ⟨kq, hkq⟩ : ∃ b, b = inB m 1 8 := ⟨_, rfl⟩
  obtain ⟨kt, hkt⟩ : ∃ b, b = riseB 0 ((srt cmpI l n).take n) := ⟨_, rfl⟩
  have hS : ∀ v, Calls Try.prog 39 #[.int .i64 s] v fun e w' => e = .returned (.bool ks) ∧ w' = v := fun v => by rw [hks]; exact isSeed_any _ v
  have hQ : ∀ v, Calls Try.prog 40 #[.int .i64 m] v fun e w' => e = .returned (.bool kq) ∧ w' = v := fun v => by rw [hkq]; exact isQS_any _ v
  have hv := iValuesQ_any a n c w
  have HKA : Hid (allK l = ka) := hka.symm
  have HKT : Hid (riseB 0 ((srt cmpI l n).take n) = kt) := hkt.symm
  have HB0 : Hid (Below w.heap.size w w) := Below.refl _ _
  obtain ⟨r, hr⟩ : ∃ r, r = chR l s m := ⟨_, rfl⟩
  rw [← hr]
  unfold chR at hr
  rw [HN.out, ← hka, ← hks, ← hkq, ← hkt] at hr
  have HR : Hid (r = if 8 < n then 2 else if ka = false ∨ ks = false ∨ kq = false then 3 else if kt = false then 7 else if (n : Int) < m then 4 else 0) := hr
  clear hr hka hks hkq hkt hI
  by_cases h8 : 8 < n
  · obtain rfl : r = 2 := by rw [HR.out, if_pos h8]
    have h8i : (8 : Int) < (n : Int) := by omega
    go_enter Try.func26, Try.ntmps26
    go_wp2
    go_ret
    exact ⟨rfl, HB0.out⟩
  have hn8 : n ≤ 8 := by omega
  have h8i : ¬ (8 : Int) < (n : Int) := by omega
  cases ka
  · obtain rfl : r = 3 := by rw [HR.out, if_neg h8, if_pos (.inl rfl)]
    clear h8
    go_enter Try.func26, Try.ntmps26
    go_wp2_with (first
      | (go_at_call 43; (with_reducible refine hv.mono ?_); clear hv; rintro e w1 ⟨rfl, hw1⟩; have hks := areKeysQ_any w.heap.size n c a l w w1 (by omega) HI.out (by rw [hw1]; exact below_box _) (by rw [hw1]; simp) (by rw [hw1]; exact (new1 w _ _).1); rw [HKA.out] at hks; have HB1 : Hid (Below w.heap.size w w1) := (by show Below _ _ _; rw [hw1]; exact below_box _); clear hw1)
      | (go_at_call 42; (with_reducible refine hks.mono ?_); clear hks; rintro e w2 ⟨rfl, hb2⟩; have HB2 : Hid (Below w.heap.size w w2) := HB1.out.trans (hb2.mono HB1.out.size); have hlo := lotOf_any a n c l w2 hn8 (HI.out.below HB2.out (Nat.le_refl _)); clear hb2)
      | (go_at_call 39; (with_reducible refine (hS _).mono ?_); rintro e w' ⟨rfl, hw⟩; have hw2 := hw.symm; subst hw2)
      | (go_at_call 40; (with_reducible refine (hQ _).mono ?_); rintro e w' ⟨rfl, hw⟩; have hw2 := hw.symm; subst hw2)
      | (go_at_call 27; (with_reducible refine hlo.mono ?_); clear hlo; rintro e w3 ⟨rfl, hb3⟩; have HB3 : Hid (Below w.heap.size w w3) := HB2.out.trans (hb3.mono HB2.out.size); have htw := hasTwins_any l n (w3.alloc (.cells #[.int .i64 (lkAt l 0), .int .i64 (lkAt l 1), .int .i64 (lkAt l 2), .int .i64 (lkAt l 3), .int .i64 (lkAt l 4), .int .i64 (lkAt l 5), .int .i64 (lkAt l 6), .int .i64 (lkAt l 7), .int .i64 (n : Int)] 54)) HN.out hn8; rw [HKT.out] at htw; have HX3 : Hid ((w3.alloc (.cells #[.int .i64 (lkAt l 0), .int .i64 (lkAt l 1), .int .i64 (lkAt l 2), .int .i64 (lkAt l 3), .int .i64 (lkAt l 4), .int .i64 (lkAt l 5), .int .i64 (lkAt l 6), .int .i64 (lkAt l 7), .int .i64 (n : Int)] 54)).heap[w3.heap.size]? = some (.cells #[.int .i64 (lkAt l 0), .int .i64 (lkAt l 1), .int .i64 (lkAt l 2), .int .i64 (lkAt l 3), .int .i64 (lkAt l 4), .int .i64 (lkAt l 5), .int .i64 (lkAt l 6), .int .i64 (lkAt l 7), .int .i64 (n : Int)] 54 (0, 0))) := heap_alloc_new _ _; clear hb3)
      | (go_at_call 52; (with_reducible refine htw.mono ?_); clear htw; rintro e w4 ⟨rfl, hb4⟩; have HB4 : Hid (Below w.heap.size w w4) := (HB3.out.trans ((below_box _).mono HB3.out.size)).trans (hb4.mono (by have := HB3.out.size; simp; omega)); obtain ⟨x0, x1, x2, x3, x4, x5, x6, x7, x8⟩ := cells9 (keepb HX3.out hb4).out; clear hb4))
    go_ret
    exact ⟨rfl, HB2.out⟩
  cases ks
  · obtain rfl : r = 3 := by rw [HR.out, if_neg h8, if_pos (.inr (.inl rfl))]
    clear h8
    go_enter Try.func26, Try.ntmps26
    go_wp2_with (first
      | (go_at_call 43; (with_reducible refine hv.mono ?_); clear hv; rintro e w1 ⟨rfl, hw1⟩; have hks := areKeysQ_any w.heap.size n c a l w w1 (by omega) HI.out (by rw [hw1]; exact below_box _) (by rw [hw1]; simp) (by rw [hw1]; exact (new1 w _ _).1); rw [HKA.out] at hks; have HB1 : Hid (Below w.heap.size w w1) := (by show Below _ _ _; rw [hw1]; exact below_box _); clear hw1)
      | (go_at_call 42; (with_reducible refine hks.mono ?_); clear hks; rintro e w2 ⟨rfl, hb2⟩; have HB2 : Hid (Below w.heap.size w w2) := HB1.out.trans (hb2.mono HB1.out.size); have hlo := lotOf_any a n c l w2 hn8 (HI.out.below HB2.out (Nat.le_refl _)); clear hb2)
      | (go_at_call 39; (with_reducible refine (hS _).mono ?_); rintro e w' ⟨rfl, hw⟩; have hw2 := hw.symm; subst hw2)
      | (go_at_call 40; (with_reducible refine (hQ _).mono ?_); rintro e w' ⟨rfl, hw⟩; have hw2 := hw.symm; subst hw2)
      | (go_at_call 27; (with_reducible refine hlo.mono ?_); clear hlo; rintro e w3 ⟨rfl, hb3⟩; have HB3 : Hid (Below w.heap.size w w3) := HB2.out.trans (hb3.mono HB2.out.size); have htw := hasTwins_any l n (w3.alloc (.cells #[.int .i64 (lkAt l 0), .int .i64 (lkAt l 1), .int .i64 (lkAt l 2), .int .i64 (lkAt l 3), .int .i64 (lkAt l 4), .int .i64 (lkAt l 5), .int .i64 (lkAt l 6), .int .i64 (lkAt l 7), .int .i64 (n : Int)] 54)) HN.out hn8; rw [HKT.out] at htw; have HX3 : Hid ((w3.alloc (.cells #[.int .i64 (lkAt l 0), .int .i64 (lkAt l 1), .int .i64 (lkAt l 2), .int .i64 (lkAt l 3), .int .i64 (lkAt l 4), .int .i64 (lkAt l 5), .int .i64 (lkAt l 6), .int .i64 (lkAt l 7), .int .i64 (n : Int)] 54)).heap[w3.heap.size]? = some (.cells #[.int .i64 (lkAt l 0), .int .i64 (lkAt l 1), .int .i64 (lkAt l 2), .int .i64 (lkAt l 3), .int .i64 (lkAt l 4), .int .i64 (lkAt l 5), .int .i64 (lkAt l 6), .int .i64 (lkAt l 7), .int .i64 (n : Int)] 54 (0, 0))) := heap_alloc_new _ _; clear hb3)
      | (go_at_call 52; (with_reducible refine htw.mono ?_); clear htw; rintro e w4 ⟨rfl, hb4⟩; have HB4 : Hid (Below w.heap.size w w4) := (HB3.out.trans ((below_box _).mono HB3.out.size)).trans (hb4.mono (by have := HB3.out.size; simp; omega)); obtain ⟨x0, x1, x2, x3, x4, x5, x6, x7, x8⟩ := cells9 (keepb HX3.out hb4).out; clear hb4))
    go_ret
    exact ⟨rfl, HB2.out⟩
  cases kq
  · obtain rfl : r = 3 := by rw [HR.out, if_neg h8, if_pos (.inr (.inr rfl))]
    clear h8
    go_enter Try.func26, Try.ntmps26
    go_wp2_with (first
      | (go_at_call 43; (with_reducible refine hv.mono ?_); clear hv; rintro e w1 ⟨rfl, hw1⟩; have hks := areKeysQ_any w.heap.size n c a l w w1 (by omega) HI.out (by rw [hw1]; exact below_box _) (by rw [hw1]; simp) (by rw [hw1]; exact (new1 w _ _).1); rw [HKA.out] at hks; have HB1 : Hid (Below w.heap.size w w1) := (by show Below _ _ _; rw [hw1]; exact below_box _); clear hw1)
      | (go_at_call 42; (with_reducible refine hks.mono ?_); clear hks; rintro e w2 ⟨rfl, hb2⟩; have HB2 : Hid (Below w.heap.size w w2) := HB1.out.trans (hb2.mono HB1.out.size); have hlo := lotOf_any a n c l w2 hn8 (HI.out.below HB2.out (Nat.le_refl _)); clear hb2)
      | (go_at_call 39; (with_reducible refine (hS _).mono ?_); rintro e w' ⟨rfl, hw⟩; have hw2 := hw.symm; subst hw2)
      | (go_at_call 40; (with_reducible refine (hQ _).mono ?_); rintro e w' ⟨rfl, hw⟩; have hw2 := hw.symm; subst hw2)
      | (go_at_call 27; (with_reducible refine hlo.mono ?_); clear hlo; rintro e w3 ⟨rfl, hb3⟩; have HB3 : Hid (Below w.heap.size w w3) := HB2.out.trans (hb3.mono HB2.out.size); have htw := hasTwins_any l n (w3.alloc (.cells #[.int .i64 (lkAt l 0), .int .i64 (lkAt l 1), .int .i64 (lkAt l 2), .int .i64 (lkAt l 3), .int .i64 (lkAt l 4), .int .i64 (lkAt l 5), .int .i64 (lkAt l 6), .int .i64 (lkAt l 7), .int .i64 (n : Int)] 54)) HN.out hn8; rw [HKT.out] at htw; have HX3 : Hid ((w3.alloc (.cells #[.int .i64 (lkAt l 0), .int .i64 (lkAt l 1), .int .i64 (lkAt l 2), .int .i64 (lkAt l 3), .int .i64 (lkAt l 4), .int .i64 (lkAt l 5), .int .i64 (lkAt l 6), .int .i64 (lkAt l 7), .int .i64 (n : Int)] 54)).heap[w3.heap.size]? = some (.cells #[.int .i64 (lkAt l 0), .int .i64 (lkAt l 1), .int .i64 (lkAt l 2), .int .i64 (lkAt l 3), .int .i64 (lkAt l 4), .int .i64 (lkAt l 5), .int .i64 (lkAt l 6), .int .i64 (lkAt l 7), .int .i64 (n : Int)] 54 (0, 0))) := heap_alloc_new _ _; clear hb3)
      | (go_at_call 52; (with_reducible refine htw.mono ?_); clear htw; rintro e w4 ⟨rfl, hb4⟩; have HB4 : Hid (Below w.heap.size w w4) := (HB3.out.trans ((below_box _).mono HB3.out.size)).trans (hb4.mono (by have := HB3.out.size; simp; omega)); obtain ⟨x0, x1, x2, x3, x4, x5, x6, x7, x8⟩ := cells9 (keepb HX3.out hb4).out; clear hb4))
    go_ret
    exact ⟨rfl, HB2.out⟩
  cases kt
  · obtain rfl : r = 7 := by rw [HR.out, if_neg h8, if_neg (by simp), if_pos rfl]
    clear h8
    go_enter Try.func26, Try.ntmps26
    go_wp2_with (first
      | (go_at_call 43; (with_reducible refine hv.mono ?_); clear hv; rintro e w1 ⟨rfl, hw1⟩; have hks := areKeysQ_any w.heap.size n c a l w w1 (by omega) HI.out (by rw [hw1]; exact below_box _) (by rw [hw1]; simp) (by rw [hw1]; exact (new1 w _ _).1); rw [HKA.out] at hks; have HB1 : Hid (Below w.heap.size w w1) := (by show Below _ _ _; rw [hw1]; exact below_box _); clear hw1)
      | (go_at_call 42; (with_reducible refine hks.mono ?_); clear hks; rintro e w2 ⟨rfl, hb2⟩; have HB2 : Hid (Below w.heap.size w w2) := HB1.out.trans (hb2.mono HB1.out.size); have hlo := lotOf_any a n c l w2 hn8 (HI.out.below HB2.out (Nat.le_refl _)); clear hb2)
      | (go_at_call 39; (with_reducible refine (hS _).mono ?_); rintro e w' ⟨rfl, hw⟩; have hw2 := hw.symm; subst hw2)
      | (go_at_call 40; (with_reducible refine (hQ _).mono ?_); rintro e w' ⟨rfl, hw⟩; have hw2 := hw.symm; subst hw2)
      | (go_at_call 27; (with_reducible refine hlo.mono ?_); clear hlo; rintro e w3 ⟨rfl, hb3⟩; have HB3 : Hid (Below w.heap.size w w3) := HB2.out.trans (hb3.mono HB2.out.size); have htw := hasTwins_any l n (w3.alloc (.cells #[.int .i64 (lkAt l 0), .int .i64 (lkAt l 1), .int .i64 (lkAt l 2), .int .i64 (lkAt l 3), .int .i64 (lkAt l 4), .int .i64 (lkAt l 5), .int .i64 (lkAt l 6), .int .i64 (lkAt l 7), .int .i64 (n : Int)] 54)) HN.out hn8; rw [HKT.out] at htw; have HX3 : Hid ((w3.alloc (.cells #[.int .i64 (lkAt l 0), .int .i64 (lkAt l 1), .int .i64 (lkAt l 2), .int .i64 (lkAt l 3), .int .i64 (lkAt l 4), .int .i64 (lkAt l 5), .int .i64 (lkAt l 6), .int .i64 (lkAt l 7), .int .i64 (n : Int)] 54)).heap[w3.heap.size]? = some (.cells #[.int .i64 (lkAt l 0), .int .i64 (lkAt l 1), .int .i64 (lkAt l 2), .int .i64 (lkAt l 3), .int .i64 (lkAt l 4), .int .i64 (lkAt l 5), .int .i64 (lkAt l 6), .int .i64 (lkAt l 7), .int .i64 (n : Int)] 54 (0, 0))) := heap_alloc_new _ _; clear hb3)
      | (go_at_call 52; (with_reducible refine htw.mono ?_); clear htw; rintro e w4 ⟨rfl, hb4⟩; have HB4 : Hid (Below w.heap.size w w4) := (HB3.out.trans ((below_box _).mono HB3.out.size)).trans (hb4.mono (by have := HB3.out.size; simp; omega)); obtain ⟨x0, x1, x2, x3, x4, x5, x6, x7, x8⟩ := cells9 (keepb HX3.out hb4).out; clear hb4))
    go_ret
    exact ⟨rfl, HB4.out⟩
  by_cases hlt : (n : Int) < m
  · obtain rfl : r = 4 := by rw [HR.out, if_neg h8, if_neg (by simp), if_neg (by simp), if_pos hlt]
    clear h8
    go_enter Try.func26, Try.ntmps26
    go_wp2_with (first
      | (go_at_call 43; (with_reducible refine hv.mono ?_); clear hv; rintro e w1 ⟨rfl, hw1⟩; have hks := areKeysQ_any w.heap.size n c a l w w1 (by omega) HI.out (by rw [hw1]; exact below_box _) (by rw [hw1]; simp) (by rw [hw1]; exact (new1 w _ _).1); rw [HKA.out] at hks; have HB1 : Hid (Below w.heap.size w w1) := (by show Below _ _ _; rw [hw1]; exact below_box _); clear hw1)
      | (go_at_call 42; (with_reducible refine hks.mono ?_); clear hks; rintro e w2 ⟨rfl, hb2⟩; have HB2 : Hid (Below w.heap.size w w2) := HB1.out.trans (hb2.mono HB1.out.size); have hlo := lotOf_any a n c l w2 hn8 (HI.out.below HB2.out (Nat.le_refl _)); clear hb2)
      | (go_at_call 39; (with_reducible refine (hS _).mono ?_); rintro e w' ⟨rfl, hw⟩; have hw2 := hw.symm; subst hw2)
      | (go_at_call 40; (with_reducible refine (hQ _).mono ?_); rintro e w' ⟨rfl, hw⟩; have hw2 := hw.symm; subst hw2)
      | (go_at_call 27; (with_reducible refine hlo.mono ?_); clear hlo; rintro e w3 ⟨rfl, hb3⟩; have HB3 : Hid (Below w.heap.size w w3) := HB2.out.trans (hb3.mono HB2.out.size); have htw := hasTwins_any l n (w3.alloc (.cells #[.int .i64 (lkAt l 0), .int .i64 (lkAt l 1), .int .i64 (lkAt l 2), .int .i64 (lkAt l 3), .int .i64 (lkAt l 4), .int .i64 (lkAt l 5), .int .i64 (lkAt l 6), .int .i64 (lkAt l 7), .int .i64 (n : Int)] 54)) HN.out hn8; rw [HKT.out] at htw; have HX3 : Hid ((w3.alloc (.cells #[.int .i64 (lkAt l 0), .int .i64 (lkAt l 1), .int .i64 (lkAt l 2), .int .i64 (lkAt l 3), .int .i64 (lkAt l 4), .int .i64 (lkAt l 5), .int .i64 (lkAt l 6), .int .i64 (lkAt l 7), .int .i64 (n : Int)] 54)).heap[w3.heap.size]? = some (.cells #[.int .i64 (lkAt l 0), .int .i64 (lkAt l 1), .int .i64 (lkAt l 2), .int .i64 (lkAt l 3), .int .i64 (lkAt l 4), .int .i64 (lkAt l 5), .int .i64 (lkAt l 6), .int .i64 (lkAt l 7), .int .i64 (n : Int)] 54 (0, 0))) := heap_alloc_new _ _; clear hb3)
      | (go_at_call 52; (with_reducible refine htw.mono ?_); clear htw; rintro e w4 ⟨rfl, hb4⟩; have HB4 : Hid (Below w.heap.size w w4) := (HB3.out.trans ((below_box _).mono HB3.out.size)).trans (hb4.mono (by have := HB3.out.size; simp; omega)); obtain ⟨x0, x1, x2, x3, x4, x5, x6, x7, x8⟩ := cells9 (keepb HX3.out hb4).out; clear hb4))
    go_ret
    exact ⟨rfl, HB4.out⟩
  · obtain rfl : r = 0 := by rw [HR.out, if_neg h8, if_neg (by simp), if_neg (by simp), if_neg hlt]
    clear h8
    go_enter Try.func26, Try.ntmps26
    go_wp2_with (first
      | (go_at_call 43; (with_reducible refine hv.mono ?_); clear hv; rintro e w1 ⟨rfl, hw1⟩; have hks := areKeysQ_any w.heap.size n c a l w w1 (by omega) HI.out (by rw [hw1]; exact below_box _) (by rw [hw1]; simp) (by rw [hw1]; exact (new1 w _ _).1); rw [HKA.out] at hks; have HB1 : Hid (Below w.heap.size w w1) := (by show Below _ _ _; rw [hw1]; exact below_box _); clear hw1)
      | (go_at_call 42; (with_reducible refine hks.mono ?_); clear hks; rintro e w2 ⟨rfl, hb2⟩; have HB2 : Hid (Below w.heap.size w w2) := HB1.out.trans (hb2.mono HB1.out.size); have hlo := lotOf_any a n c l w2 hn8 (HI.out.below HB2.out (Nat.le_refl _)); clear hb2)
      | (go_at_call 39; (with_reducible refine (hS _).mono ?_); rintro e w' ⟨rfl, hw⟩; have hw2 := hw.symm; subst hw2)
      | (go_at_call 40; (with_reducible refine (hQ _).mono ?_); rintro e w' ⟨rfl, hw⟩; have hw2 := hw.symm; subst hw2)
      | (go_at_call 27; (with_reducible refine hlo.mono ?_); clear hlo; rintro e w3 ⟨rfl, hb3⟩; have HB3 : Hid (Below w.heap.size w w3) := HB2.out.trans (hb3.mono HB2.out.size); have htw := hasTwins_any l n (w3.alloc (.cells #[.int .i64 (lkAt l 0), .int .i64 (lkAt l 1), .int .i64 (lkAt l 2), .int .i64 (lkAt l 3), .int .i64 (lkAt l 4), .int .i64 (lkAt l 5), .int .i64 (lkAt l 6), .int .i64 (lkAt l 7), .int .i64 (n : Int)] 54)) HN.out hn8; rw [HKT.out] at htw; have HX3 : Hid ((w3.alloc (.cells #[.int .i64 (lkAt l 0), .int .i64 (lkAt l 1), .int .i64 (lkAt l 2), .int .i64 (lkAt l 3), .int .i64 (lkAt l 4), .int .i64 (lkAt l 5), .int .i64 (lkAt l 6), .int .i64 (lkAt l 7), .int .i64 (n : Int)] 54)).heap[w3.heap.size]? = some (.cells #[.int .i64 (lkAt l 0), .int .i64 (lkAt l 1), .int .i64 (lkAt l 2), .int .i64 (lkAt l 3), .int .i64 (lkAt l 4), .int .i64 (lkAt l 5), .int .i64 (lkAt l 6), .int .i64 (lkAt l 7), .int .i64 (n : Int)] 54 (0, 0))) := heap_alloc_new _ _; clear hb3)
      | (go_at_call 52; (with_reducible refine htw.mono ?_); clear htw; rintro e w4 ⟨rfl, hb4⟩; have HB4 : Hid (Below w.heap.size w w4) := (HB3.out.trans ((below_box _).mono HB3.out.size)).trans (hb4.mono (by have := HB3.out.size; simp; omega)); obtain ⟨x0, x1, x2, x3, x4, x5, x6, x7, x8⟩ := cells9 (keepb HX3.out hb4).out; clear hb4))
    go_ret
    exact ⟨rfl, HB4.out⟩

theorem chR_zero {l : List Int} {s m : Int} (h : chR l s m = 0) : l.length ≤ 8 ∧ allK l = true ∧ (0 ≤ s ∧ s ≤ 65535) ∧ (1 ≤ m ∧ m ≤ 8) ∧ riseB 0 ((srt cmpI l l.length).take l.length) = true ∧ m ≤ l.length := by
  unfold chR at h
  by_cases h1 : 8 < l.length
  · rw [if_pos h1] at h; cases h
  rw [if_neg h1] at h
  by_cases h2 : allK l = false ∨ inB s 0 65535 = false ∨ inB m 1 8 = false
  · rw [if_pos h2] at h; cases h
  rw [if_neg h2] at h
  by_cases h3 : riseB 0 ((srt cmpI l l.length).take l.length) = false
  · rw [if_pos h3] at h; cases h
  rw [if_neg h3] at h
  by_cases h4 : (l.length : Int) < m
  · rw [if_pos h4] at h; cases h
  simp only [not_or, Bool.not_eq_false] at h2 h3
  exact ⟨by omega, h2.1, inB_true.1 h2.2.1, inB_true.1 h2.2.2, h3, by omega⟩

set_option maxRecDepth 20000 in
set_option maxHeartbeats 4000000 in
theorem iChooseQuorum_any (a : Option Addr) (n c : Nat) (l : List Int) (s k : Int) (w : World) (hl : n ≤ maxLen) (hI : IAt w a n l) :
    Calls Try.prog 7 #[.slice a n c, .int .i64 s, .int .i64 k] w fun e w' => OutQ w w' e (choR l s k).1 (choR l s k).2.1 (choR l s k).2.2 := by
  obtain ⟨W, hW⟩ : ∃ W, W = w.alloc (.cells #[.int .i64 0, .slice none 0 0, .int .i64 0] 30) := ⟨_, rfl⟩
  have hbx : Below w.heap.size w W := by rw [hW]; exact below_box _
  have HX0 : Hid (W.heap[w.heap.size]? = some (.cells #[.int .i64 0, .slice none 0 0, .int .i64 0] 30 (0, 0))) := by show _ = _; rw [hW]; exact heap_alloc_new _ _
  have HN : Hid (l.length = n) := hI.1
  have HI : Hid (IAt W a n l) := hI.below hbx (Nat.le_refl _)
  have HBX : Hid (Below w.heap.size w W) := hbx
  have HWS : Hid (W.heap.size = w.heap.size + 1) := by show _ = _; rw [hW]; simp
  have hf := chooseFault_any a n c l s k W hl HI.out
  obtain ⟨cd, hcd⟩ : ∃ x, x = chR l s k := ⟨_, rfl⟩
  rw [← hcd] at hf
  by_cases hz : cd = 0
  · have hz0 := chR_zero (hcd.symm.trans hz)
    rw [HN.out] at hz0
    obtain ⟨hn8, _, _, hm1, _, hmn⟩ := hz0
    obtain ⟨m, rfl⟩ := Int.eq_ofNat_of_zero_le (show 0 ≤ k by omega)
    have hm8 : m ≤ 8 := by omega
    have hmn' : m ≤ n := by omega
    obtain ⟨nd, hnd⟩ : ∃ x, x = (needR (m : Int)).2 := ⟨_, rfl⟩
    have HRL : Hid (((srt cmpI (srt (rcmp s) l n) m).take m).length = m) := by show _ = _; rw [List.length_take, srt_length, srt_length, HN.out]; omega
    have hr : choR l s (m : Int) = (0, (srt cmpI (srt (rcmp s) l n) m).take m, nd) := by unfold choR choL; rw [if_neg (by rw [← hcd, hz]; simp), hnd, HN.out]; rfl
    have hne := iNeedOf_any (m : Int)
    have hn1 : (needR (m : Int)).1 = 0 := by unfold needR; rw [if_pos (inB_true.2 hm1)]
    simp only [hn1, ← hnd] at hne
    rw [hr]
    have hfl : ∀ v : World, (Instr.field 36 (.agg #[.int .i64 0, .int .i64 nd]) 1).run Try.prog v = .ok (.int .i64 nd) v := fun v => by kernel_rfl
    have HS1 : Hid ((srt (rcmp s) l n).length = n) := by show _ = _; rw [srt_length, HN.out]
    have HS2 : Hid ((srt cmpI (srt (rcmp s) l n) m).length = n) := by show _ = _; rw [srt_length, srt_length, HN.out]
    have hz2 : cd = 0 := hz
    subst hz2
    rw [hW] at hf
    have HW : Hid (W = w.alloc (.cells #[.int .i64 0, .slice none 0 0, .int .i64 0] 30)) := hW
    clear hW hbx hr hnd hn1 hI hcd hz hm1 hmn hl
    go_enter Try.func7, Try.ntmps7
    go_wp2_with (first
      | (go_at_call 26; (with_reducible refine hf.mono ?_); clear hf; rintro e w1 ⟨rfl, hb1⟩; rw [← HW.out] at hb1; have HB1 : Hid (Below W.heap.size W w1) := hb1; have hlo := lotOf_any a n c l w1 hn8 (HI.out.below hb1 (Nat.le_refl _)); clear hb1)
      | (go_at_call 27; (with_reducible refine hlo.mono ?_); clear hlo; rintro e w2 ⟨rfl, hb2⟩; have HB2 : Hid (Below W.heap.size W w2) := HB1.out.trans (hb2.mono HB1.out.size); have hro := rankOrder_any s w2; clear hb2)
      | (go_at_call 29; (with_reducible refine hro.mono ?_); clear hro; rintro e w3 ⟨rfl, hw3⟩; have hcell : w3.cell? ⟨w2.heap.size, 0, none⟩ = some (.int .i64 s) := (by rw [hw3]; exact (new1 w2 _ _).1); have hs1 := sortedBy_any n 54 #[.pointer (some ⟨w2.heap.size, 0, none⟩)] (rcmp s) l w3 (by rw [HN.out]; exact Nat.le_refl _) hn8 (cmpOk_rank w3 w2.heap.size s hcell); have HB3 : Hid (Below W.heap.size W w3) := (by show Below _ _ _; rw [hw3]; exact HB2.out.trans ((below_box _).mono HB2.out.size)); clear hw3 hcell)
      | (go_at_call 28; have hq := hs1; clear hs1; (with_reducible refine hq.mono ?_); clear hq; rintro e w4 ⟨rfl, hb4⟩; have HB4 : Hid (Below W.heap.size W w4) := HB3.out.trans (hb4.mono HB3.out.size); have hfi := first_any (srt (rcmp s) l n) (n : Int) (m : Int) w4; clear hb4)
      | (go_at_call 30; (with_reducible refine hfi.mono ?_); clear hfi; rintro e w5 ⟨rfl, hb5⟩; have HB5 : Hid (Below W.heap.size W (w5.alloc (.cells #[.int .i64 (lkAt (srt (rcmp s) l n) 0), .int .i64 (lkAt (srt (rcmp s) l n) 1), .int .i64 (lkAt (srt (rcmp s) l n) 2), .int .i64 (lkAt (srt (rcmp s) l n) 3), .int .i64 (lkAt (srt (rcmp s) l n) 4), .int .i64 (lkAt (srt (rcmp s) l n) 5), .int .i64 (lkAt (srt (rcmp s) l n) 6), .int .i64 (lkAt (srt (rcmp s) l n) 7), .int .i64 (m : Int)] 54))) := (HB4.out.trans (hb5.mono HB4.out.size)).trans ((below_box _).mono (by have := HB4.out.size; have := hb5.size; omega)); have hs2 := sortedBy_any m 31 #[] cmpI (srt (rcmp s) l n) (w5.alloc (.cells #[.int .i64 (lkAt (srt (rcmp s) l n) 0), .int .i64 (lkAt (srt (rcmp s) l n) 1), .int .i64 (lkAt (srt (rcmp s) l n) 2), .int .i64 (lkAt (srt (rcmp s) l n) 3), .int .i64 (lkAt (srt (rcmp s) l n) 4), .int .i64 (lkAt (srt (rcmp s) l n) 5), .int .i64 (lkAt (srt (rcmp s) l n) 6), .int .i64 (lkAt (srt (rcmp s) l n) 7), .int .i64 (m : Int)] 54)) (by rw [HS1.out]; exact hmn') hm8 (cmpOk_nums _); clear hb5)
      | (go_at_call 28; have hq := hs2; clear hs2; (with_reducible refine hq.mono ?_); clear hq; rintro e w6 ⟨rfl, hb6⟩; have HB6 : Hid (Below W.heap.size W (w6.alloc (.cells #[.int .i64 (lkAt (srt cmpI (srt (rcmp s) l n) m) 0), .int .i64 (lkAt (srt cmpI (srt (rcmp s) l n) m) 1), .int .i64 (lkAt (srt cmpI (srt (rcmp s) l n) m) 2), .int .i64 (lkAt (srt cmpI (srt (rcmp s) l n) m) 3), .int .i64 (lkAt (srt cmpI (srt (rcmp s) l n) m) 4), .int .i64 (lkAt (srt cmpI (srt (rcmp s) l n) m) 5), .int .i64 (lkAt (srt cmpI (srt (rcmp s) l n) m) 6), .int .i64 (lkAt (srt cmpI (srt (rcmp s) l n) m) 7), .int .i64 (m : Int)] 54))) := (HB5.out.trans (hb6.mono HB5.out.size)).trans ((below_box _).mono (by have := HB5.out.size; have := hb6.size; omega)); have hli := list_any (srt cmpI (srt (rcmp s) l n) m) m (w6.alloc (.cells #[.int .i64 (lkAt (srt cmpI (srt (rcmp s) l n) m) 0), .int .i64 (lkAt (srt cmpI (srt (rcmp s) l n) m) 1), .int .i64 (lkAt (srt cmpI (srt (rcmp s) l n) m) 2), .int .i64 (lkAt (srt cmpI (srt (rcmp s) l n) m) 3), .int .i64 (lkAt (srt cmpI (srt (rcmp s) l n) m) 4), .int .i64 (lkAt (srt cmpI (srt (rcmp s) l n) m) 5), .int .i64 (lkAt (srt cmpI (srt (rcmp s) l n) m) 6), .int .i64 (lkAt (srt cmpI (srt (rcmp s) l n) m) 7), .int .i64 (m : Int)] 54)) (by rw [HS2.out]; exact hmn') hm8; clear hb6)
      | (go_at_call 32; (with_reducible refine hli.mono ?_); clear hli; rintro e w7 ⟨g, gk, rfl, ho7, hb7⟩; have HB7 : Hid (Below W.heap.size W w7) := HB6.out.trans (hb7.mono HB6.out.size); have HO7 : Hid (w7.ownsRow W.heap.size 2 1 (.slice (some ⟨g, 0, none⟩) m gk) m (ints ((srt cmpI (srt (rcmp s) l n) m).take m))) := Joins.ownsRow_le ho7 HB6.out.size; clear ho7 hb7)
      | (go_at_call 12; (with_reducible refine (hne _).mono ?_); rintro e w8 ⟨rfl, hb8⟩; have HB8 : Hid (Below W.heap.size W w8) := HB7.out.trans (hb8.mono HB7.out.size); have HO8 : Hid (w8.ownsRow W.heap.size 2 1 (.slice (some ⟨g, 0, none⟩) m gk) m (ints ((srt cmpI (srt (rcmp s) l n) m).take m))) := (own1_new HO7.out).below hb8 |>.t; obtain ⟨⟨x0, x1, x2⟩, ⟨f0, f1, f2⟩, HX⟩ := res3 HX0.out HB8.out (by rw [HWS.out]; omega)))
    obtain ⟨s0, s1, s2⟩ := cells3 (set3 HX.out (.int .i64 0) (.slice (some ⟨g, 0, none⟩) m gk) (.int .i64 nd))
    have hbw : Below w.heap.size w w8 := HBX.out.trans (HB8.out.mono HBX.out.size)
    refine bodyPost_ret (v := .agg #[.int .i64 0, .slice (some ⟨g, 0, none⟩) m gk, .int .i64 nd]) (by simp [results, Try.results7, go_sem, s0, s1, s2]) rfl ⟨below_set3 hbw (Nat.le_refl _) _ _ _, some ⟨g, 0, none⟩, gk, by rw [HRL.out], ?_⟩
    show World.ownsRow _ _ _ _ _ _ _
    rw [HRL.out]
    exact Joins.ownsRow_le (row_set3 HO8.out (by rw [HWS.out]; omega) _ _ _) HBX.out.size
  · have hr : choR l s k = (cd, [], 0) := by unfold choR; rw [if_pos (by rw [← hcd]; exact hz), ← hcd]
    rw [hr]
    have hne : (cd != 0) = true := by simpa using hz
    rw [hW] at hf
    have HW : Hid (W = w.alloc (.cells #[.int .i64 0, .slice none 0 0, .int .i64 0] 30)) := hW
    clear hcd hr hz hI hW hbx
    go_enter Try.func7, Try.ntmps7
    go_wp2_with (go_at_call 26; (with_reducible refine hf.mono ?_); clear hf; rintro e w1 ⟨rfl, hb1⟩; rw [← HW.out] at hb1; have HB1 : Hid (Below W.heap.size W w1) := hb1; obtain ⟨⟨x0, x1, x2⟩, ⟨f0, f1, f2⟩, HX⟩ := res3 HX0.out hb1 (by rw [HWS.out]; omega); clear hb1)
    obtain ⟨s0, s1, s2⟩ := cells3 (set3 HX.out (.int .i64 cd) (.slice none 0 0) (.int .i64 0))
    have hbw : Below w.heap.size w w1 := HBX.out.trans (HB1.out.mono HBX.out.size)
    exact bodyPost_ret (v := .agg #[.int .i64 cd, .slice none 0 0, .int .i64 0]) (by simp [results, Try.results7, go_sem, s0, s1, s2]) rfl (OutQ.empty (below_set3 hbw (Nat.le_refl _) _ _ _))

end Go.Proofs.Ytolpbichkmeaaaa
