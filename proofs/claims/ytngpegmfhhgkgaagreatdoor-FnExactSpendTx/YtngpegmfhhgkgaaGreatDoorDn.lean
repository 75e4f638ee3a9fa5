/- The program puts the coins of a transaction into its purse. -/
import Derived.Test.YtngpegmfhhgkgaaGreatDoorDm
import Derived.Test.YtngpegmfhhgkgaaGreatDoorCw
namespace Go.Proofs.YtngpegmfhhgkgaaGreatDoor
open Go.RowKit Go.Maps Go.WideMaps

def putFR (t : Int) (os : List Ou) (h : Int) : Int := if inB t 1 60 = false ∨ inB h 0 999 = false then 3 else if 4 < os.length then 2 else outsR os

set_option maxHeartbeats 1000000 in
theorem putFault_any (t h : Int) (m d : Nat) (oa : Option Addr) (os : List Ou) (w : World) (hm : m ≤ 1048576) (hk : ∀ j, j < m → (os.getD j O0).l.length ≤ 1048576) (hO : OAt w oa m os) :
    Calls Tryz.prog 81 #[.int .i64 t, .slice oa m d, .int .i64 h] w fun e w' => e = .returned (.int .i64 (putFR t os h)) ∧ Below w.heap.size w w' := by
  have hof := outsFault_any m d oa os w hm hk hO
  have HL : Hid (os.length = m) := hO.1
  obtain ⟨kt, hkt⟩ : ∃ k, k = inB t 1 60 := ⟨_, rfl⟩
  obtain ⟨kh, hkh⟩ : ∃ k, k = inB h 0 999 := ⟨_, rfl⟩
  have h1 : ∀ u, Calls Tryz.prog 104 #[.int .i64 t] u fun e w' => e = .returned (.bool kt) ∧ w' = u := fun u => by rw [hkt]; exact isTxId_any _ u
  have h2 : ∀ u, Calls Tryz.prog 89 #[.int .i64 h] u fun e w' => e = .returned (.bool kh) ∧ w' = u := fun u => by rw [hkh]; exact isHeight_any _ u
  have hr : putFR t os h = if kt = false ∨ kh = false then 3 else if 4 < m then 2 else outsR os := by unfold putFR; rw [hkt, hkh, hO.1]
  rw [hr]
  obtain ⟨ro, hro⟩ : ∃ r, r = outsR os := ⟨_, rfl⟩
  rw [← hro] at hof ⊢
  clear hr hkt hkh hk hO hro
  cases kt with
  | false =>
    rw [if_pos (.inl rfl)]
    go_enter Tryz.func81, Tryz.ntmps81
    go_wp2_with (go_at_call 104; (with_reducible refine (h1 _).mono ?_); clear h1; rintro e w' ⟨rfl, hw⟩; have hw2 := hw.symm; subst hw2)
    go_ret
    exact ⟨rfl, Below.refl _ _⟩
  | true =>
    cases kh with
    | false =>
      rw [if_pos (.inr rfl)]
      go_enter Tryz.func81, Tryz.ntmps81
      go_wp2_with (first
        | (go_at_call 104; (with_reducible refine (h1 _).mono ?_); clear h1; rintro e w' ⟨rfl, hw⟩; have hw2 := hw.symm; subst hw2)
        | (go_at_call 89; (with_reducible refine (h2 _).mono ?_); clear h2; rintro e w' ⟨rfl, hw⟩; have hw2 := hw.symm; subst hw2))
      go_ret
      exact ⟨rfl, Below.refl _ _⟩
    | true =>
      rw [if_neg (by simp)]
      by_cases h4 : 4 < m
      · rw [if_pos h4]
        have h4i : (4 : Int) < (m : Int) := by omega
        go_enter Tryz.func81, Tryz.ntmps81
        go_wp2_with (first
          | (go_at_call 104; (with_reducible refine (h1 _).mono ?_); clear h1; rintro e w' ⟨rfl, hw⟩; have hw2 := hw.symm; subst hw2)
          | (go_at_call 89; (with_reducible refine (h2 _).mono ?_); clear h2; rintro e w' ⟨rfl, hw⟩; have hw2 := hw.symm; subst hw2))
        go_ret
        exact ⟨rfl, Below.refl _ _⟩
      · rw [if_neg h4]
        have h4i : ¬ (4 : Int) < (m : Int) := by omega
        go_enter Tryz.func81, Tryz.ntmps81
        go_wp2_with (first
          | (go_at_call 104; (with_reducible refine (h1 _).mono ?_); clear h1; rintro e w' ⟨rfl, hw⟩; have hw2 := hw.symm; subst hw2)
          | (go_at_call 89; (with_reducible refine (h2 _).mono ?_); clear h2; rintro e w' ⟨rfl, hw⟩; have hw2 := hw.symm; subst hw2)
          | (go_at_call 79; (with_reducible refine hof.mono ?_); clear hof; rintro e w' ⟨rfl, hb⟩))
        go_ret
        exact ⟨rfl, hb⟩

/-- The coins that a transaction's outs make. -/
def newC (t h : Int) (m : Bool) (o : Ou) (j : Nat) : Co := ⟨t, j, o.v, o.l, o.x, o.y, h, m⟩
def newCs (t h : Int) (m : Bool) (os : List Ou) (k : Nat) : List Co := (List.range k).map fun j => newC t h m (os.getD j O0) j
theorem newCs_succ (t h : Int) (m : Bool) (os : List Ou) (k : Nat) : newCs t h m os (k + 1) = newCs t h m os k ++ [newC t h m (os.getD k O0) k] := by
  unfold newCs
  rw [List.range_succ, List.map_append]
  rfl
theorem outs_more : ∀ {os : List Ou}, outsR os = 0 → ∀ o ∈ os, 1 ≤ o.l.length ∧ o.l.length ≤ 3
  | [], _, o, ho => by cases ho
  | x :: t, h, o, ho => by
    unfold outsR at h
    by_cases h1 : inB x.v 1 1000000 = false
    · rw [if_pos h1] at h; cases h
    · rw [if_neg h1] at h
      by_cases h2 : ruleR x.l x.x x.y ≠ 0
      · rw [if_pos h2] at h; exact absurd h h2
      · rw [if_neg h2] at h
        rcases List.mem_cons.1 ho with rfl | ho
        · have h3 : ruleR o.l o.x o.y = 0 := Classical.not_not.1 h2
          unfold ruleR at h3
          by_cases h4 : inB o.l.length 1 3 = false
          · rw [if_pos h4] at h3; cases h3
          · have h5 : inB o.l.length 1 3 = true := by cases e : inB o.l.length 1 3; exact absurd e h4; rfl
            simp [inB] at h5
            omega
        · exact outs_more h o ho
theorem find_new {ps ps0 : List (Co × Value)} {t h : Int} {m : Bool} {os : List Ou} {k : Nat} (hp : ps.map (·.1) = ps0.map (·.1) ++ newCs t h m os k) (hno : txIn ps0 t = false) : findP ps (t, (k : Int)) = none := by
  unfold findP
  rw [List.find?_eq_none]
  intro x hx
  have h1 : x.1 ∈ ps0.map (·.1) ++ newCs t h m os k := by rw [← hp]; exact List.mem_map.2 ⟨x, hx, rfl⟩
  rcases List.mem_append.1 h1 with h1 | h1
  · obtain ⟨y, hy, e⟩ := List.mem_map.1 h1
    unfold txIn at hno
    rw [List.any_eq_false] at hno
    have := hno y hy
    simp [refOf]
    intro e2
    rw [← e] at e2
    exact absurd e2 (by simpa using this)
  · unfold newCs at h1
    obtain ⟨j, hj, e⟩ := List.mem_map.1 h1
    have hj' := List.mem_range.1 hj
    simp [refOf, ← e, newC]
    omega

end Go.Proofs.YtngpegmfhhgkgaaGreatDoor
