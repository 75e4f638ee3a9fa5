/- The law FnCoinTexts answers true, whatever bytes come in, and writes nothing that was there. -/
import Derived.Test.YtlcdhhaikhieiaaDoorOn
import Derived.Test.YtlcdhhaikhieiaaDoorOg
import Derived.Test.YtlcdhhaikhieiaaDoorOc
import Derived.Test.YtlcdhhaikhieiaaDoorJd
namespace Go.Proofs.YtlcdhhaikhieiaaDoor
open Go.RowKit Go.Shelf Go.Maps Go.WideMaps Go.Sort

theorem fieldT0 (c : Int) (q : ByteArray) (W : World) : (Instr.field 27 (.agg #[.int .i64 c, .string q]) 0).run Tryd.prog W = .ok (.int .i64 c) W := by kernel_rfl
theorem fieldW1 (a : Option Addr) (n c : Nat) (W : World) : (Instr.field 31 (.agg #[.int .i64 0, .slice a n c]) 1).run Tryd.prog W = .ok (.slice a n c) W := by kernel_rfl
theorem nlN_step {t : List UInt8} {k : Nat} {x : UInt8} (hk : k < t.length) (hx : x = t.getD k 0) : nlN (t.take (k + 1)) = nlN (t.take k) + (if x = 10 then 1 else 0) := by
  have e : t.take (k + 1) = t.take k ++ [x] := by
    rw [List.take_add_one, hx]
    simp [List.getD, hk]
  rw [e, nlN_app]
  by_cases h : x = 10
  · rw [if_pos h]; simp [nlN, h]
  · rw [if_neg h]; simp [nlN, h]
set_option maxRecDepth 20000 in
set_option maxHeartbeats 8000000 in
theorem lawCoinTexts (cn cc : Nat) (ca : Option Addr) (l : List Int) (w : World) (hB : BAt w ca cn l) (hTb : Tb w) :
    Calls Tryd.prog 3 #[.slice ca cn cc] w fun e w' => e = .returned (.bool true) ∧ Below w.heap.size w w' := by
  have hmix : Tryd.prog.follows .mixedOrders = true := by kernel_rfl
  have hbig := lwBig_any cn cc ca w
  by_cases hb : 1048576 < cn
  · have hd : decide ((1048576 : Int) < (cn : Int)) = true := decide_eq_true (by omega)
    rw [hd] at hbig
    go_enter Tryd.func3, Tryd.ntmps3
    go_wp2_with (go_at_call 4; (with_reducible refine hbig.mono ?_); clear hbig; rintro e w1 ⟨rfl, hw⟩; have hw2 := hw.symm; subst hw2)
    go_ret
    exact ⟨rfl, Below.refl _ _⟩
  have hd : decide ((1048576 : Int) < (cn : Int)) = false := decide_eq_false (by omega)
  rw [hd] at hbig
  have hdr := drawCoinsText_any cn cc ca l w (by omega) hB
  have HTB : Hid (Tb w) := hTb
  clear hB hTb hd
  go_enter Tryd.func3, Tryd.ntmps3
  go_wp2_with (first
    | (go_at_call 4; (with_reducible refine hbig.mono ?_); clear hbig; rintro e w1 ⟨rfl, hw⟩; have hw2 := hw.symm; subst hw2))
  refine hdr.mono ?_
  rintro e v ⟨cs, va, m, vc, rfl, hm, HV, hbv⟩
  have HM : Hid (m = cs.length) := hm
  have HBV : Hid (Below w.heap.size w v) := hbv
  have hm43 : m ≤ 43 := HV.out.2.1
  have hi := iCoinsText_any m vc va cs v (by omega) (fun j hj => by have := HV.out.2.2 j hj; omega) HV.out.1 (HTB.out.below hbv (Nat.le_refl _))
  have hsp : ∀ W, Below v.heap.size v W → Calls Tryd.prog 7 #[.slice va m vc] W fun e w' => e = .returned (.agg #[.int .i64 (ctR cs).1, .string (str (ctR cs).2)]) ∧ Below W.heap.size W w' := fun W hW => sCoinsText_any m vc va cs W (by omega) (fun j hj => by have := HV.out.2.2 j hj; omega) (HV.out.1.below hW (Nat.le_refl _))
  clear hm hbv hdr
  by_cases h0 : coinsR cs = 0
  · have hr : ctR cs = (0, coinsT cs) := by unfold ctR; rw [if_neg (by simp [h0])]
    rw [hr] at hi
    simp only [hr] at hsp
    have hok := coins_okE h0
    obtain ⟨t, ht⟩ : ∃ t, t = coinsT cs := ⟨_, rfl⟩
    rw [← ht] at hi
    simp only [← ht] at hsp
    have htl : t.length ≤ 201 * 43 := by
      have := coinsT_len hok.2
      rw [ht]
      have h1 := HM.out
      have : 201 * cs.length ≤ 201 * 43 := Nat.mul_le_mul (Nat.le_refl _) (by omega)
      omega
    have hnl : nlN t = m := by rw [ht, coins_lines cs (fun c => coinT_nl c), HM.out]
    have hwn : 3 * m ≤ (wordsL t).length := by rw [ht, HM.out]; exact coins_wordsL cs
    have hwl := wordsL_len t
    obtain ⟨wn, hwne⟩ : ∃ k, k = (wordsL t).length := ⟨_, rfl⟩
    rw [← hwne] at hwn hwl
    have HW : Hid (∀ W, Calls Tryd.prog 8 #[.string (str t)] W fun e w' => ∃ va vc, e = .returned (.agg #[.int .i64 0, .slice va wn vc]) ∧ Below W.heap.size W w') := fun W => (iWordsOf_any t W (by omega)).mono fun e w' ⟨a, b, h1, _, h3⟩ => ⟨a, b, by rw [hwne]; exact h1, h3⟩
    have HNL : Hid (nlN t = m) := hnl
    have HSP : Hid (∀ W, Below v.heap.size v W → Calls Tryd.prog 7 #[.slice va m vc] W fun e w' => e = .returned (.agg #[.int .i64 0, .string (str t)]) ∧ Below W.heap.size W w') := hsp
    have hss : (str t).size = t.length := rfl
    clear hr ht hok h0 hnl hwne hsp
    go_wp2_with (first
      | (go_at_call 6; have hq := hi; clear hi; (with_reducible refine hq.mono ?_); clear hq; rintro e v3 ⟨rfl, hb3⟩; have HB3 : Hid (Below v.heap.size v (v3.alloc (.cells #[.int .i64 0, .string (str t)] 27))) := hb3.trans ((below_box _).mono hb3.size); have HX3 : Hid ((v3.alloc (.cells #[.int .i64 0, .string (str t)] 27)).heap[v3.heap.size]? = some (.cells #[.int .i64 0, .string (str t)] 27 (0, 0))) := heap_alloc_new _ _; obtain ⟨q0, q1⟩ := cells2 HX3.out; clear hb3))
    obtain ⟨V, hV⟩ : ∃ V, V = v3.alloc (.cells #[.int .i64 0, .string (str t)] 27) := ⟨_, rfl⟩
    rw [← hV] at HB3 HX3 q0 q1 ⊢
    obtain ⟨X, hX⟩ : ∃ X, X = v3.heap.size := ⟨_, rfl⟩
    rw [← hX] at HX3 q0 q1 ⊢
    clear hV hX
    go_loopw [5, 6] (fun a i wr => ∃ k : Nat, k ≤ t.length ∧ i = .int .i64 k ∧ ∃ c : Nat, a = .int .i64 c ∧ c ≤ k ∧ Hid (c = nlN (t.take k)) ∧ wr = V) (fun _ i _ => t.length - (intOf i).toNat)
    case atStart => exact ⟨0, Nat.zero_le _, rfl, 0, rfl, Nat.le_refl _, rfl, rfl⟩
    case round =>
      obtain ⟨k, hk, rfl, c, rfl, hck, HC, rfl⟩ := hrel
      by_cases hlt : k < t.length
      · have hki : (k : Int) < (t.length : Int) := by omega
        obtain ⟨x, hx⟩ : ∃ x, x = t.getD k 0 := ⟨_, rfl⟩
        have hix : ∀ hh, (str t)[k]'hh = x := fun hh => by
          rw [hx]
          simp [List.getD, hlt, str, ByteArray.getElem_eq_getElem_data]
        have hst := nlN_step hlt hx
        by_cases hc : x = 10
        · have hcc : ((x.toNat : Int) == 10) = true := by simp [hc]
          rw [if_pos hc] at hst
          have HST : Hid (nlN (t.take (k + 1)) = nlN (t.take k) + 1) := hst
          clear hst hc hx
          go_wp2
          go_roundw
          case rel => exact ⟨k + 1, by omega, by go_num, c + 1, by go_num, by omega, by show _ = _; rw [HST.out, ← HC.out], by first | rfl | trivial⟩
          case measure => simp [intOf]; omega
        · have hcc : ((x.toNat : Int) == 10) = false := by
            simp
            intro e
            exact hc (UInt8.toNat_inj.1 (by show x.toNat = 10; omega))
          rw [if_neg hc] at hst
          have HST : Hid (nlN (t.take (k + 1)) = nlN (t.take k)) := hst
          clear hst hc hx
          go_wp2
          go_roundw
          case rel => exact ⟨k + 1, by omega, by go_num, c, rfl, by omega, by show _ = _; rw [HST.out, ← HC.out], by first | rfl | trivial⟩
          case measure => simp [intOf]; omega
      · obtain rfl : c = m := by rw [HC.out, ← HNL.out, List.take_of_length_le (by omega)]
        have hw3 : IntKind.i64.wrap (3 * (c : Int)) = 3 * (c : Int) := IntWalk.i64_in _ (by omega)
        have hd3 : decide (3 * (c : Int) ≤ (wn : Int)) = true := decide_eq_true (by omega)
        have hsv := HSP.out
        have hf0 := fieldT0 0 (str t)
        have hf1 := fieldText (str t)
        have hf2 := fieldW1
        go_wp2
        have hXl : X < wr.heap.size := lt_of_block HX3.out
        go_region_held3 (fun w' => w'.cell? ⟨X, 1, none⟩ = some (.string (str t))) (first | (with_reducible assumption) | go_keep)
          (first
            | (go_at_call 7; (with_reducible refine (HSP.out _ (HB3.out.trans ((Below.refl _ _).drew.mono HB3.out.size))).mono ?_); rintro e v5 ⟨rfl, hb5⟩; have z1 := ((show Below wr.heap.size wr v5 from (Below.refl _ _).drew.trans hb5).cell (p := ⟨X, 1, none⟩) hXl).trans q1; have hs5 : wr.heap.size ≤ v5.heap.size := hb5.size)
            | (go_at_call 8; (with_reducible refine (HW.out _).mono ?_); rintro e v6 ⟨ga, gc, rfl, hb6⟩; have z2 := (hb6.cell (p := ⟨X, 1, none⟩) (Nat.lt_of_lt_of_le hXl hs5)).trans z1))
        go_wp2
        go_ret
        refine ⟨rfl, HBV.out.trans ((HB3.out.mono HBV.out.size).trans ?_)⟩
        have h5 : Below wr.heap.size wr v5 := (Below.refl _ _).drew.trans hb5
        have h6 := h5.trans (hb6.mono h5.size)
        exact h6.mono (Nat.le_trans HBV.out.size HB3.out.size)
  · have hr : ctR cs = (coinsR cs, []) := by unfold ctR; rw [if_pos h0]
    rw [hr] at hi
    simp only [hr] at hsp
    obtain ⟨cd, hcd⟩ : ∃ c, c = coinsR cs := ⟨_, rfl⟩
    rw [← hcd] at hi h0
    simp only [← hcd] at hsp
    have hcb : (cd == 0) = false := by simpa using h0
    have HSP : Hid (∀ W, Below v.heap.size v W → Calls Tryd.prog 7 #[.slice va m vc] W fun e w' => e = .returned (.agg #[.int .i64 cd, .string (str [])]) ∧ Below W.heap.size W w') := hsp
    clear hr hcd hsp
    go_wp2_with (first
      | (go_at_call 6; have hq := hi; clear hi; (with_reducible refine hq.mono ?_); clear hq; rintro e v3 ⟨rfl, hb3⟩; have HB3 : Hid (Below v.heap.size v (v3.alloc (.cells #[.int .i64 cd, .string (str [])] 27))) := hb3.trans ((below_box _).mono hb3.size); have HX3 : Hid ((v3.alloc (.cells #[.int .i64 cd, .string (str [])] 27)).heap[v3.heap.size]? = some (.cells #[.int .i64 cd, .string (str [])] 27 (0, 0))) := heap_alloc_new _ _; obtain ⟨q0, q1⟩ := cells2 HX3.out; clear hb3))
    obtain ⟨V, hV⟩ : ∃ V, V = v3.alloc (.cells #[.int .i64 cd, .string (str [])] 27) := ⟨_, rfl⟩
    rw [← hV] at HB3 HX3 q0 q1 ⊢
    obtain ⟨X, hX⟩ : ∃ X, X = v3.heap.size := ⟨_, rfl⟩
    rw [← hX] at HX3 q0 q1 ⊢
    clear hV hX
    have hXl : X < V.heap.size := lt_of_block HX3.out
    have hf0 := fieldT0 cd (str [])
    go_region_held3 (fun w' => w'.cell? ⟨X, 0, none⟩ = some (.int .i64 cd)) (first | (with_reducible assumption) | go_keep)
      (first
        | (go_at_call 7; (with_reducible refine (HSP.out _ (HB3.out.trans ((Below.refl _ _).drew.mono HB3.out.size))).mono ?_); rintro e v5 ⟨rfl, hb5⟩; have z1 := ((show Below V.heap.size V v5 from (Below.refl _ _).drew.trans hb5).cell (p := ⟨X, 0, none⟩) hXl).trans q0))
    go_wp2
    go_ret
    refine ⟨rfl, HBV.out.trans ((HB3.out.mono HBV.out.size).trans ?_)⟩
    have h5 : Below V.heap.size V v5 := (Below.refl _ _).drew.trans hb5
    exact h5.mono (Nat.le_trans HBV.out.size HB3.out.size)

end Go.Proofs.YtlcdhhaikhieiaaDoor
