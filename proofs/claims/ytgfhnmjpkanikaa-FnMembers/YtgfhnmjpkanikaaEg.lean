/- The program's search of a key in the bench, and its members. -/
import Derived.Test.YtgfhnmjpkanikaaEf
import Derived.Test.YtgfhnmjpkanikaaJn2
namespace Go.Proofs.Ytgfhnmjpkanikaa
open Go.RowKit Go.Maps Go.WideMaps

theorem compareKey_any (k p q key : Int) (w : World) :
    Calls Try.prog 50 #[.agg #[.int .i64 k, .int .i64 p, .int .i64 q], .int .i64 key] w fun e w' => e = .returned (.int .i64 (cmpI k key)) ∧ Below w.heap.size w w' := by
  obtain ⟨r, hr⟩ : ∃ r, r = cmpI k key := ⟨_, rfl⟩
  have hc : ∀ W, Calls Try.prog 65 #[.int .i64 k, .int .i64 key] W fun e w' => e = .returned (.int .i64 r) ∧ w' = W := fun W => by rw [hr]; exact cmpC_any k key W
  rw [← hr]
  clear hr
  have HB : Hid (Below w.heap.size w (w.alloc (.cells #[.int .i64 k, .int .i64 p, .int .i64 q] 68))) := below_box _
  go_enter Try.func50, Try.ntmps50
  go_wp2_with (first | (go_at_call 65; (with_reducible refine (hc _).mono ?_); rintro e w' ⟨rfl, hw⟩; have hw2 := hw.symm; subst hw2))
  go_ret
  exact ⟨rfl, HB.out⟩

/-- Keys rise. -/
def Rises (ms : List Mb) : Prop := ∀ i j, i < j → j < ms.length → (ms.getD i Z3).1 < (ms.getD j Z3).1
theorem each_rise : ∀ {ms : List Mb} {l : Int}, eachR l ms = 0 → (∀ j, j < ms.length → l < (ms.getD j Z3).1) ∧ Rises ms
  | [], _, _ => ⟨fun j hj => by simp at hj, fun i j _ hj => by simp at hj⟩
  | m :: t, l, h => by
    unfold eachR at h
    by_cases h1 : inB m.1 1 999 = false ∨ refB m.2 = false
    · rw [if_pos h1] at h; cases h
    rw [if_neg h1] at h
    by_cases h2 : m.1 ≤ l
    · rw [if_pos h2] at h; cases h
    rw [if_neg h2] at h
    obtain ⟨i1, i2⟩ := each_rise h
    refine ⟨fun j hj => ?_, fun i j hij hj => ?_⟩
    · cases j with
      | zero => show l < m.1; omega
      | succ j =>
        have := i1 j (by simpa using hj)
        show l < (t.getD j Z3).1
        omega
    · cases j with
      | zero => omega
      | succ j =>
        cases i with
        | zero => exact i1 j (by simpa using hj)
        | succ i => exact i2 i j (by omega) (by simpa using hj)
theorem mems_rise {ms : List Mb} (h : memsR ms = 0) : Rises ms := by
  unfold memsR at h
  by_cases h8 : 8 < ms.length
  · rw [if_pos h8] at h; cases h
  rw [if_neg h8] at h
  by_cases h0 : eachR 0 ms = 0
  · exact (each_rise h0).2
  · rw [if_pos h0] at h; exact absurd h h0
theorem cmpI_neg {a b : Int} : cmpI a b < 0 ↔ a < b := by
  unfold cmpI; by_cases h : a < b
  · simp [h]
  · by_cases h2 : b < a <;> simp [h, h2]

/-- Where a key stands, or would stand. -/
structure Place (ms : List Mb) (key : Int) (at' : Nat) (found : Bool) : Prop where
  le : at' ≤ ms.length
  ahead : ∀ t, t < at' → (ms.getD t Z3).1 < key
  behind : ∀ t, at' ≤ t → t < ms.length → key ≤ (ms.getD t Z3).1
  hit : found = true → at' < ms.length ∧ (ms.getD at' Z3).1 = key
  miss : found = false → ∀ t, t < ms.length → (ms.getD t Z3).1 ≠ key

def PlaceO (w w' : World) (e : Ending) (ms : List Mb) (key : Int) : Prop := ∃ (at' : Nat) (found : Bool), e = .returned (.tuple #[.int .i64 at', .bool found]) ∧ Hid (Place ms key at' found) ∧ Below w.heap.size w w'

set_option maxRecDepth 20000 in
set_option maxHeartbeats 2000000 in
theorem bSearch_any (n c : Nat) (a : Option Addr) (ms : List Mb) (key : Int) (w : World) (hn : n ≤ 1000) (hC : MAt w a n ms) (hri : Rises ms) :
    Calls Try.prog 49 #[.slice a n c, .int .i64 key, .func (.func 50) #[] #[]] w fun e w' => PlaceO w w' e ms key := by
  have HC : Hid (MAt w a n ms) := hC
  have HN : Hid (ms.length = n) := hC.1
  have HRI : Hid (Rises ms) := hri
  clear hC hri
  go_enter Try.func49, Try.ntmps49
  go_wp2
  go_loopw [9, 10] (fun i j wr => ∃ lo hi : Nat, i = .int .i64 lo ∧ j = .int .i64 hi ∧ lo ≤ hi ∧ hi ≤ n ∧ Below w.heap.size w wr ∧ Hid ((∀ t, t < lo → (ms.getD t Z3).1 < key) ∧ (∀ t, hi ≤ t → t < n → key ≤ (ms.getD t Z3).1))) (fun i j _ => (intOf j).toNat - (intOf i).toNat)
  case atStart => exact ⟨0, n, rfl, rfl, Nat.zero_le _, Nat.le_refl _, Below.refl _ _, fun t ht => by omega, fun t h1 h2 => by omega⟩
  case round =>
    obtain ⟨lo, hi, rfl, rfl, hlh, hin, hbel, HI⟩ := hrel
    by_cases hlt : lo < hi
    · rcases HC.out.2 with h0 | ⟨b, off, e0, l0, d0⟩
      · omega
      subst e0
      obtain ⟨m, hm⟩ : ∃ m, m = (lo + hi) / 2 := ⟨_, rfl⟩
      have hmid : ((lo : Int) + (hi : Int)) / 2 = (m : Int) := by omega
      have hml : lo ≤ m := by omega
      have hmh : m < hi := by omega
      obtain ⟨o, ho⟩ : ∃ o, o = ms.getD m Z3 := ⟨_, rfl⟩
      have p0 := d0 m (by omega)
      rw [← ho] at p0
      have HS : Hid (o = ms.getD m Z3) := ho
      obtain ⟨ok, op, oq⟩ := o
      have x0 := (hbel.cell (p := ⟨b, off + m * 3, none⟩) l0).trans p0.1
      have x1 := (hbel.cell (p := ⟨b, off + m * 3 + 1, none⟩) l0).trans p0.2.1
      have x2 := (hbel.cell (p := ⟨b, off + m * 3 + 2, none⟩) l0).trans p0.2.2
      simp only at x0 x1 x2
      have hc := compareKey_any ok op oq key wr
      obtain ⟨r, hr⟩ : ∃ r, r = cmpI ok key := ⟨_, rfl⟩
      rw [← hr] at hc
      have HR : Hid (r = cmpI ok key) := hr
      have hlti : (lo : Int) < (hi : Int) := by omega
      have hmn : (m : Int) < (n : Int) := by omega
      clear hr ho p0 d0 hm
      by_cases hyx : r < 0
      · have HIN : Hid ((∀ t, t < m + 1 → (ms.getD t Z3).1 < key) ∧ (∀ t, hi ≤ t → t < n → key ≤ (ms.getD t Z3).1)) := ⟨fun t ht => by
          have h1 : ok < key := cmpI_neg.1 (by rw [← HR.out]; exact hyx)
          have h2 : (ms.getD m Z3).1 = ok := by rw [← HS.out]
          rcases Nat.lt_or_ge t m with h3 | h3
          · have := HRI.out t m h3 (by rw [HN.out]; omega)
            omega
          · obtain rfl : t = m := by omega
            omega, HI.out.2⟩
        go_wp2_with (first | (go_at_call 50; (with_reducible refine hc.mono ?_); clear hc; rintro e w2 ⟨rfl, hb2⟩))
        go_roundw
        case rel => exact ⟨m + 1, hi, by go_num, rfl, by omega, hin, hbel.trans (hb2.mono hbel.size), HIN⟩
        case measure => simp [intOf]; omega
      · have HIN : Hid ((∀ t, t < lo → (ms.getD t Z3).1 < key) ∧ (∀ t, m ≤ t → t < n → key ≤ (ms.getD t Z3).1)) := ⟨HI.out.1, fun t ht htn => by
          have h1 : ¬ ok < key := fun h => hyx (by rw [HR.out]; exact cmpI_neg.2 h)
          have h2 : (ms.getD m Z3).1 = ok := by rw [← HS.out]
          rcases Nat.lt_or_ge m t with h3 | h3
          · have := HRI.out m t h3 (by rw [HN.out]; omega)
            omega
          · obtain rfl : t = m := by omega
            omega⟩
        go_wp2_with (first | (go_at_call 50; (with_reducible refine hc.mono ?_); clear hc; rintro e w2 ⟨rfl, hb2⟩))
        go_roundw
        case rel => exact ⟨lo, m, rfl, rfl, hml, by omega, hbel.trans (hb2.mono hbel.size), HIN⟩
        case measure => simp [intOf]; omega
    · obtain rfl : hi = lo := by omega
      have hnlt : ¬ (hi : Int) < (hi : Int) := by omega
      by_cases hhn : hi < n
      · rcases HC.out.2 with h0 | ⟨b, off, e0, l0, d0⟩
        · omega
        subst e0
        obtain ⟨o, ho⟩ : ∃ o, o = ms.getD hi Z3 := ⟨_, rfl⟩
        have p0 := d0 hi hhn
        rw [← ho] at p0
        have HS : Hid (o = ms.getD hi Z3) := ho
        obtain ⟨ok, op, oq⟩ := o
        have x0 := (hbel.cell (p := ⟨b, off + hi * 3, none⟩) l0).trans p0.1
        have x1 := (hbel.cell (p := ⟨b, off + hi * 3 + 1, none⟩) l0).trans p0.2.1
        have x2 := (hbel.cell (p := ⟨b, off + hi * 3 + 2, none⟩) l0).trans p0.2.2
        simp only at x0 x1 x2
        have hc := compareKey_any ok op oq key wr
        obtain ⟨r, hr⟩ : ∃ r, r = cmpI ok key := ⟨_, rfl⟩
        rw [← hr] at hc
        have HR : Hid (r = cmpI ok key) := hr
        have hhi : (hi : Int) < (n : Int) := by omega
        clear hr ho p0 d0
        by_cases hyx : r = 0
        · have HPL : Hid (Place ms key hi true) := ⟨by rw [HN.out]; omega, HI.out.1, by rw [HN.out]; exact HI.out.2, fun _ => ⟨by rw [HN.out]; omega, by rw [← HS.out]; exact cmpI_zero.1 (by rw [← HR.out]; exact hyx)⟩, fun e => by cases e⟩
          subst hyx
          go_wp2_with (first | (go_at_call 50; (with_reducible refine hc.mono ?_); clear hc; rintro e w2 ⟨rfl, hb2⟩))
          exact bodyPost_ret (v := .tuple #[.int .i64 hi, .bool true]) (by simp [results, Try.results49, go_sem]) rfl ⟨hi, true, rfl, HPL, hbel.trans (hb2.mono hbel.size)⟩
        · have HPL : Hid (Place ms key hi false) := ⟨by rw [HN.out]; omega, HI.out.1, by rw [HN.out]; exact HI.out.2, fun e => (by cases e), fun _ t ht => by
            rw [HN.out] at ht
            have h2 : (ms.getD hi Z3).1 = ok := by rw [← HS.out]
            have h3 : ok ≠ key := fun e => hyx (by rw [HR.out]; exact cmpI_zero.2 e)
            rcases Nat.lt_or_ge t hi with h1 | h1
            · have := HI.out.1 t h1; omega
            · have h4 := HI.out.2 hi (Nat.le_refl _) hhn
              rcases Nat.lt_or_ge hi t with h5 | h5
              · have := HRI.out hi t h5 (by rw [HN.out]; exact ht)
                omega
              · obtain rfl : t = hi := by omega
                omega⟩
          go_wp2_with (first | (go_at_call 50; (with_reducible refine hc.mono ?_); clear hc; rintro e w2 ⟨rfl, hb2⟩))
          exact bodyPost_ret (v := .tuple #[.int .i64 hi, .bool false]) (by simp [results, Try.results49, go_sem, hyx]) rfl ⟨hi, false, rfl, HPL, hbel.trans (hb2.mono hbel.size)⟩
      · have HPL : Hid (Place ms key hi false) := ⟨by rw [HN.out]; omega, HI.out.1, by rw [HN.out]; exact HI.out.2, fun e => (by cases e), fun _ t ht => by
          rw [HN.out] at ht
          have := HI.out.1 t (by omega)
          omega⟩
        have hhi : ¬ (hi : Int) < (n : Int) := by omega
        go_wp2
        exact bodyPost_ret (v := .tuple #[.int .i64 hi, .bool false]) (by simp [results, Try.results49, go_sem]) rfl ⟨hi, false, rfl, HPL, hbel⟩

set_option maxHeartbeats 1000000 in
theorem placeOf_any (n c : Nat) (a : Option Addr) (ms : List Mb) (key : Int) (w : World) (hn : n ≤ 1000) (hC : MAt w a n ms) (hri : Rises ms) :
    Calls Try.prog 28 #[.slice a n c, .int .i64 key] w fun e w' => PlaceO w w' e ms key := by
  have hc := bSearch_any n c a ms key w hn hC hri
  clear hC hri
  go_enter Try.func28, Try.ntmps28
  go_wp2_with (first | (go_at_call 49; (with_reducible refine hc.mono ?_); clear hc; rintro e w2 ⟨at', fo, rfl, HP, hb2⟩))
  exact bodyPost_ret (v := .tuple #[.int .i64 at', .bool fo]) (by simp [results, Try.results28, go_sem]) rfl ⟨at', fo, rfl, HP, hb2⟩

set_option maxRecDepth 20000 in
set_option maxHeartbeats 2000000 in
theorem members_any (n c : Nat) (a : Option Addr) (ms : List Mb) (w : World) (hn : n ≤ 1000) (hC : MAt w a n ms) :
    Calls Try.prog 23 #[.slice a n c] w fun e w' => ∃ va vc, e = .returned (.slice va n vc) ∧ w'.ownsRow w.heap.size 38 3 (.slice va n vc) n (mcells ms) ∧ Below w.heap.size w w' := by
  have HC : Hid (MAt w a n ms) := hC
  have HN : Hid (ms.length = n) := hC.1
  clear hC
  go_enter Try.func23, Try.ntmps23
  go_wp2
  go_loopw [3, 8] (fun v i wr => ∃ j : Nat, j ≤ n ∧ i = .int .i64 j ∧ Below w.heap.size w wr ∧ ∃ va vc, v = .slice va j vc ∧ Hid (wr.ownsRow w.heap.size 38 3 (.slice va j vc) j (mcells (ms.take j)))) (fun _ i _ => n - (intOf i).toNat)
  case atStart => exact ⟨0, Nat.zero_le _, rfl, Below.refl _ _, none, 0, rfl, ⟨rfl, .inl ⟨rfl, rfl⟩⟩⟩
  case round =>
    obtain ⟨j, hj, rfl, hbel, va, vc, rfl, HO⟩ := hrel
    by_cases hlt : j < n
    · rcases HC.out.2 with h0 | ⟨b, off, e0, l0, d0⟩
      · omega
      subst e0
      obtain ⟨o, ho⟩ : ∃ o, o = ms.getD j Z3 := ⟨_, rfl⟩
      have p0 := d0 j hlt
      rw [← ho] at p0
      have HTS : Hid (ms.take (j + 1) = ms.take j ++ [o]) := by
        have := take_map1 id HN.out hlt ho
        rw [List.map_id, List.map_id] at this
        exact this
      obtain ⟨ok, op, oq⟩ := o
      have x0 := (hbel.cell (p := ⟨b, off + j * 3, none⟩) l0).trans p0.1
      have x1 := (hbel.cell (p := ⟨b, off + j * 3 + 1, none⟩) l0).trans p0.2.1
      have x2 := (hbel.cell (p := ⟨b, off + j * 3 + 2, none⟩) l0).trans p0.2.2
      simp only at x0 x1 x2
      have hki : (j : Int) < (n : Int) := by omega
      have hsz := hbel.size
      obtain ⟨g5, cap, w5, hrun, HC5⟩ := mem_added (o := (ok, op, oq)) (X := wr.heap.size + 1) ((HO.out.alloc (.cells #[.int .i64 ok, .int .i64 op, .int .i64 oq] 68)).alloc (.cells #[.int .i64 ok, .int .i64 op, .int .i64 oq] 38)) (heap_alloc_at _ _ _ (by simp)) (by omega) (by simp; omega)
      have HB5 : Hid (Below w.heap.size w w5) := (hbel.trans ((below_box2 _ _).mono hbel.size)).grown HC5.out.2 (by simp; omega) (fun k hk => (HO.out.lt k hk).1)
      clear ho p0 d0 hsz
      go_wp2_with (first
        | (at_builtin; go_must (refine wpList_append_runC (by rfl) _ _ _ (by rfl) (by rfl) (by rfl) hrun ?_); clear hrun))
      go_roundw
      case rel => exact ⟨j + 1, by omega, by go_num, HB5.out, _, _, rfl, by rw [HTS.out]; exact HC5.out.1⟩
      case measure => simp [intOf]; omega
    · have hjn : j = n := by omega
      subst hjn
      have HTF : Hid (ms.take j = ms) := List.take_of_length_le (by rw [HN.out]; omega)
      go_wp2
      go_ret
      exact ⟨va, vc, rfl, by have := HO.out; rw [HTF.out] at this; exact this, hbel⟩

end Go.Proofs.Ytgfhnmjpkanikaa
