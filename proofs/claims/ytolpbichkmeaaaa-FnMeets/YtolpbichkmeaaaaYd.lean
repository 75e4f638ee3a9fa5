/- Two lots of a safe quorum, as data: one in common who is not bad; numbers that the law draws, and who is among numbers. -/
import Derived.Test.YtolpbichkmeaaaaYc
import Derived.Test.YtolpbichkmeaaaaXg
import Derived.Test.YtolpbichkmeaaaaXf
namespace Go.Proofs.Ytolpbichkmeaaaa
open Go.RowKit Go.Maps Go.WideMaps

theorem lwBigM_any (cn cc : Nat) (ca : Option Addr) (w : World) : Calls Try.prog 5 #[.slice ca cn cc] w fun e w' => e = .returned (.bool (decide ((1048576 : Int) < (cn : Int)))) ∧ w' = w := by
  go_enter Try.func5, Try.ntmps5
  go_wp2
  go_ret
  exact ⟨rfl, rfl⟩
theorem lwHas_any (a : Option Addr) (n cap : Nat) (l : List Int) (v : Int) (w : World) (hl : n ≤ maxLen) (hs : IAt w a n l) :
    Calls Try.prog 9 #[.slice a n cap, .int .i64 v] w fun e w' => e = .returned (.bool (hasK l v)) ∧ w' = w := by
  unfold maxLen at hl
  have HN : Hid (l.length = n) := hs.1
  have HSS : Hid (IAt w a n l) := hs
  obtain ⟨r, hr⟩ : ∃ r, r = hasK l v := ⟨_, rfl⟩
  rw [← hr]
  have HR : Hid (r = hasK l v) := hr
  clear hs hr
  go_enter Try.func9, Try.ntmps9
  go_wp2
  go_loopw [5] (fun i wr => ∃ k : Nat, k ≤ n ∧ i = .int .i64 k ∧ Hid (v ∉ l.take k) ∧ wr = w) (fun i _ => n - (intOf i).toNat)
  case atStart => exact ⟨0, Nat.zero_le _, rfl, by show v ∉ _; simp, rfl⟩
  case round =>
    obtain ⟨k, hk, rfl, HJ, hw⟩ := hrel
    have hw2 := hw.symm
    subst hw2
    by_cases hlt : k < n
    · rcases HSS.out.2 with h0 | ⟨b, off, ha, hb, hc⟩
      · omega
      subst ha
      obtain ⟨s, hsx⟩ : ∃ s, s = l.getD k 0 := ⟨_, rfl⟩
      have hcx := hc k hlt
      rw [← hsx] at hcx
      have HS : Hid (s = l.getD k 0) := hsx
      clear hc hsx
      have hki : (k : Int) < (n : Int) := by omega
      by_cases hv : s = v
      · obtain rfl : r = true := by rw [HR.out]; exact hasK_yes (mem_hit HN.out hlt HS.out hv)
        have e : (s == v) = true := by simp [hv]
        have H1 : Hid (s = v) := hv
        clear hv
        go_wp2
        go_ret
        exact ⟨rfl, rfl⟩
      · have e : (s == v) = false := by simp [hv]
        have H1 : Hid (¬ s = v) := hv
        clear hv
        go_wp2
        go_roundw
        case rel => exact ⟨k + 1, by omega, by go_num, mem_take_next HN.out hlt HS.out HJ.out H1.out, (by first | rfl | trivial)⟩
        case measure => simp [intOf]; omega
    · obtain rfl : r = false := by rw [HR.out]; exact hasK_no (by have := HJ.out; rwa [take_all HN.out hlt] at this)
      go_wp2
      go_ret
      exact ⟨rfl, rfl⟩

/-- What lwAt answers for a place and a number of at most 200. -/
def lwAtR (l : List Int) (cn i n : Nat) : Int := if n ≤ 1 then 0 else if cn = 0 then ((i * 7 : Nat) : Int) % (n : Int) else (l.getD (i % cn) 0 + ((i / cn * 3 : Nat) : Int)) % (n : Int)
theorem lwAtR_lt (l : List Int) (cn i n : Nat) (hn : 1 ≤ n) : 0 ≤ lwAtR l cn i n ∧ lwAtR l cn i n < n := by
  unfold lwAtR
  by_cases h1 : n ≤ 1
  · rw [if_pos h1]; omega
  rw [if_neg h1]
  by_cases h2 : cn = 0
  · rw [if_pos h2]; exact ⟨Int.emod_nonneg _ (by omega), Int.emod_lt_of_pos _ (by omega)⟩
  · rw [if_neg h2]; exact ⟨Int.emod_nonneg _ (by omega), Int.emod_lt_of_pos _ (by omega)⟩

set_option maxRecDepth 20000 in
set_option maxHeartbeats 2000000 in
theorem lwAt_any (cn cc i n : Nat) (ca : Option Addr) (l : List Int) (w : World) (hi : i ≤ 10) (hn : n ≤ 100) (hcn : cn ≤ 1048576) (hB : BAt w ca cn l) :
    Calls Try.prog 20 #[.slice ca cn cc, .int .i64 i, .int .i64 n] w fun e w' => e = .returned (.int .i64 (lwAtR l cn i n)) ∧ Below w.heap.size w w' := by
  by_cases h1 : n ≤ 1
  · have e : lwAtR l cn i n = 0 := by unfold lwAtR; rw [if_pos h1]
    rw [e]
    have h1i : (n : Int) ≤ 1 := by omega
    clear e hB
    go_enter Try.func20, Try.ntmps20
    go_wp2
    go_ret
    exact ⟨rfl, Below.refl _ _⟩
  have h1i : ¬ (n : Int) ≤ 1 := by omega
  by_cases h2 : cn = 0
  · subst h2
    have e : lwAtR l 0 i n = ((i * 7 : Nat) : Int) % (n : Int) := by unfold lwAtR; rw [if_neg h1, if_pos rfl]
    rw [e]
    have m1 : IntKind.i64.wrap ((i : Int) * 7) = (i : Int) * 7 := IntWalk.i64_in _ (by omega)
    have m3 : ((i : Int) * 7).tmod (n : Int) = ((i * 7 : Nat) : Int) % (n : Int) := by rw [Int.tmod_eq_emod_of_nonneg (by omega)]; congr 1
    have m4 : IntKind.i64.wrap (((i * 7 : Nat) : Int) % (n : Int)) = ((i * 7 : Nat) : Int) % (n : Int) := IntWalk.i64_in _ (by have := Int.emod_nonneg ((i * 7 : Nat) : Int) (show (n : Int) ≠ 0 by omega); have := Int.emod_lt_of_pos ((i * 7 : Nat) : Int) (show (0 : Int) < n by omega); omega)
    have hn0 : ((n : Int) == 0) = false := by simp; omega
    clear e hB
    go_enter Try.func20, Try.ntmps20
    go_wp2
    go_ret
    exact ⟨rfl, Below.refl _ _⟩
  · rcases hB.2 with h0 | ⟨b, off, rfl, hbl, hcell⟩
    · exact absurd h0 h2
    obtain ⟨j, hjv⟩ : ∃ j, j = i % cn := ⟨_, rfl⟩
    obtain ⟨q, hqv⟩ : ∃ q, q = i / cn := ⟨_, rfl⟩
    have hjl : j < cn := by rw [hjv]; exact Nat.mod_lt _ (by omega)
    have hql : q ≤ i := by rw [hqv]; exact Nat.div_le_self _ _
    have hj : (i : Int).tmod (cn : Int) = (j : Int) := by rw [hjv, Int.tmod_eq_emod_of_nonneg (by omega)]; omega
    have hq : (i : Int).tdiv (cn : Int) = (q : Int) := by rw [hqv, Int.tdiv_eq_ediv_of_nonneg (by omega)]; omega
    have hx := hcell j hjl
    have hrange := hB.1 j
    obtain ⟨x, hxe⟩ : ∃ x, x = l.getD j 0 := ⟨_, rfl⟩
    rw [← hxe] at hx hrange
    have e : lwAtR l cn i n = (x + ((q * 3 : Nat) : Int)) % (n : Int) := by unfold lwAtR; rw [if_neg h1, if_neg h2, ← hjv, ← hqv, ← hxe]
    rw [e]
    have hji : (j : Int) < (cn : Int) := by omega
    have hcz : (cn : Int) ≠ 0 := by omega
    have hc0 : ((cn : Int) == 0) = false := by simp; omega
    have h200 : ¬ (200 : Int) < (n : Int) := by omega
    have hnz : (n : Int) ≠ 0 := by omega
    clear hcell hxe hB e hjv hqv
    go_enter Try.func20, Try.ntmps20
    go_wp2
    go_quiet (fail)
    go_wp2
    go_ret
    refine ⟨?_, Joins.below_draws _ _ _⟩
    simp

theorem sub_len : ∀ {a L : List Int}, a.Nodup → (∀ x ∈ a, x ∈ L) → a.length ≤ L.length
  | [], _, _, _ => by simp
  | x :: t, L, hn, hs => by
    obtain ⟨h1, h2⟩ := List.nodup_cons.1 hn
    have hx : x ∈ L := hs x (List.mem_cons_self ..)
    have := sub_len (L := L.erase x) h2 (fun y hy => by
      have hne : y ≠ x := fun e => h1 (e ▸ hy)
      exact (List.mem_erase_of_ne hne).2 (hs y (List.mem_cons_of_mem _ hy)))
    rw [List.length_erase_of_mem hx] at this
    have hp : 0 < L.length := List.length_pos_of_mem hx
    simp only [List.length_cons]
    omega
theorem two_counts (P Q : Int → Bool) : ∀ L : List Int, (L.filter P).length + (L.filter Q).length ≤ L.length + (L.filter fun x => P x && Q x).length
  | [] => by simp
  | x :: t => by
    have := two_counts P Q t
    simp only [List.filter_cons, List.length_cons]
    cases P x <;> cases Q x <;> simp <;> omega
theorem count_imp {P Q : Int → Bool} : ∀ {L : List Int}, (∀ x ∈ L, P x = true → Q x = true) → (L.filter P).length ≤ (L.filter Q).length
  | [], _ => by simp
  | x :: t, h => by
    have h1 := count_imp (L := t) (fun y hy => h y (List.mem_cons_of_mem _ hy))
    have h2 := h x (List.mem_cons_self ..)
    simp only [List.filter_cons]
    cases hp : P x
    · cases Q x <;> simp <;> omega
    · rw [h2 hp]; simp; omega
/-- Two lots of a quorum's keys, together more than all of these and the bad ones, have one in common who is not bad. -/
theorem meet_good {L a b bad : List Int} (ha : a.Nodup) (hb : b.Nodup) (ha2 : ∀ x ∈ a, x ∈ L) (hb2 : ∀ x ∈ b, x ∈ L) (h : badN L bad + L.length < a.length + b.length) : ∃ x ∈ a, hasK b x = true ∧ hasK bad x = false := by
  apply Classical.byContradiction
  intro hno
  have f1 : a.length ≤ (L.filter (hasK a)).length := sub_len ha fun x hx => List.mem_filter.2 ⟨ha2 x hx, hasK_yes hx⟩
  have f2 : b.length ≤ (L.filter (hasK b)).length := sub_len hb fun x hx => List.mem_filter.2 ⟨hb2 x hx, hasK_yes hx⟩
  have f3 := two_counts (hasK a) (hasK b) L
  have f4 : (L.filter fun x => hasK a x && hasK b x).length ≤ badN L bad := count_imp fun x _ hx => by
    simp only [Bool.and_eq_true] at hx
    cases hq : hasK bad x
    · exact absurd ⟨x, of_decide_eq_true hx.1, hx.2, hq⟩ hno
    · rfl
  omega

theorem mod_two {x n : Nat} (hx : x < 2 * n) : x % n = if x < n then x else x - n := by
  by_cases h : x < n
  · rw [if_pos h, Nat.mod_eq_of_lt h]
  · rw [if_neg h, Nat.mod_eq_sub_mod (by omega), Nat.mod_eq_of_lt (by omega)]
/-- The keys at so many places. -/
def lotL (L : List Int) (f : Nat → Nat) (k : Nat) : List Int := (List.range k).map fun j => L.getD (f j) 0
theorem lotL_succ (L : List Int) (f : Nat → Nat) (k : Nat) : lotL L f (k + 1) = lotL L f k ++ [L.getD (f k) 0] := by unfold lotL; rw [List.range_succ, List.map_append]; rfl
theorem lotL_length (L : List Int) (f : Nat → Nat) (k : Nat) : (lotL L f k).length = k := by simp [lotL]
theorem lotL_mem {L : List Int} {f : Nat → Nat} {k : Nat} (h : ∀ j, j < k → f j < L.length) : ∀ x ∈ lotL L f k, x ∈ L := fun x hx => by
  unfold lotL at hx
  obtain ⟨j, hj, rfl⟩ := List.mem_map.1 hx
  have := h j (List.mem_range.1 hj)
  rw [show L.getD (f j) 0 = L[f j] by simp [List.getD, this]]
  exact List.getElem_mem _
theorem lotL_nodup {L : List Int} {f : Nat → Nat} {k : Nat} (hL : L.Pairwise (· < ·)) (h : ∀ j, j < k → f j < L.length) (hf : ∀ i j, i < j → j < k → f i ≠ f j) : (lotL L f k).Nodup := by
  unfold lotL
  rw [List.nodup_iff_pairwise_ne, List.pairwise_map]
  refine List.Pairwise.imp_of_mem ?_ (List.pairwise_lt_range (n := k))
  intro i j hi hj hij
  have hi2 := List.mem_range.1 hi
  have hj2 := List.mem_range.1 hj
  have h1 := h i hi2
  have h2 := h j hj2
  rw [show L.getD (f i) 0 = L[f i] by simp [List.getD, h1], show L.getD (f j) 0 = L[f j] by simp [List.getD, h2]]
  have hne := hf i j hij hj2
  have hp := List.pairwise_iff_getElem.1 hL
  by_cases hlt : f i < f j
  · have := hp _ _ h1 h2 hlt; omega
  · have := hp _ _ h2 h1 (by omega); omega
def fwdP (A n j : Nat) : Nat := (j + A) % n
def bwdP (B n j : Nat) : Nat := (n - 1 - j + B) % n
theorem fwd_ne {A n i j : Nat} (hA : A < n) (hij : i < j) (hj : j < n) : fwdP A n i ≠ fwdP A n j := by
  unfold fwdP
  rw [mod_two (by omega), mod_two (by omega)]
  split <;> split <;> omega
theorem bwd_ne {B n i j : Nat} (hB : B < n) (hij : i < j) (hj : j < n) : bwdP B n i ≠ bwdP B n j := by
  unfold bwdP
  rw [mod_two (by omega), mod_two (by omega)]
  split <;> split <;> omega

end Go.Proofs.Ytolpbichkmeaaaa
