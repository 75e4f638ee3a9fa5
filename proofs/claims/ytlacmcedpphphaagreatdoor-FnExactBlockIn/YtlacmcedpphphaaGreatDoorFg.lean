/- A block's text: the specification's. -/
import Derived.Test.YtlacmcedpphphaaGreatDoorFf
import Derived.Test.YtlacmcedpphphaaGreatDoorFc
namespace Go.Proofs.YtlacmcedpphphaaGreatDoor
open Go.RowKit Go.Shelf Go.Maps Go.WideMaps

def txsT (l : List Int) : List UInt8 := if l = [] then [45] else plusT l
def blHd (p h m : Int) : List UInt8 := [98, 108, 111, 99, 107, 32] ++ dec p ++ (32 :: dec h) ++ (32 :: dec m)
def blT (p h m : Int) (l : List Int) : List UInt8 := blHd p h m ++ (32 :: txsT l)
theorem join_block (p h m : Int) (l : List Int) : Lib.join [[98, 108, 111, 99, 107], dec p, dec h, dec m, txsT l] [32] = blT p h m l := by
  simp [Lib.join, List.intercalate, List.intersperse, blT, blHd]
def btR (p h m : Int) (l : List Int) : Int × List UInt8 := if blR p h m l ≠ 0 then (blR p h m l, []) else (0, blT p h m l)
/-- What is known of a block without a fault. -/
structure BlOk (p h m : Int) (l : List Int) : Prop where
  p : 0 ≤ p ∧ p ≤ 60
  h : 1 ≤ h ∧ h ≤ 40
  m : 1 ≤ m ∧ m ≤ 999
  n : l.length ≤ 6
  t : ∀ k ∈ l, 1 ≤ k ∧ k ≤ 60
theorem txg_zero {l : List Int} : ∀ seen, txgR seen l = 0 → ∀ k ∈ l, 1 ≤ k ∧ k ≤ 60 := by
  induction l with
  | nil => intro _ _ k hk; cases hk
  | cons x t ih =>
    intro seen h k hk
    rw [txgR] at h
    by_cases h1 : inB x 1 60 = false
    · rw [if_pos h1] at h; cases h
    rw [if_neg h1] at h
    by_cases h2 : hasK seen x = true
    · rw [if_pos h2] at h; cases h
    rw [if_neg h2] at h
    rcases List.mem_cons.1 hk with rfl | hk
    · exact inB_true.1 (by simpa using h1)
    · exact ih _ h k hk
theorem bl_ok {p h m : Int} {l : List Int} (e : blR p h m l = 0) : BlOk p h m l := by
  unfold blR at e
  by_cases h1 : inB p 0 60 = false ∨ inB h 1 40 = false ∨ inB m 1 999 = false
  · rw [if_pos h1] at e; cases e
  rw [if_neg h1] at e
  by_cases h2 : (p == 0) ≠ (h == 1)
  · rw [if_pos h2] at e; cases e
  rw [if_neg h2] at e
  unfold txsR at e
  by_cases h3 : 6 < l.length
  · rw [if_pos h3] at e; cases e
  rw [if_neg h3] at e
  have a1 := inB_true.1 (show inB p 0 60 = true by cases e : inB p 0 60; exact absurd (.inl e) h1; rfl)
  have a2 := inB_true.1 (show inB h 1 40 = true by cases e : inB h 1 40; exact absurd (.inr (.inl e)) h1; rfl)
  have a3 := inB_true.1 (show inB m 1 999 = true by cases e : inB m 1 999; exact absurd (.inr (.inr e)) h1; rfl)
  exact ⟨a1, a2, a3, by omega, txg_zero _ e⟩
theorem blHd_len {p h m : Int} (hp : p ≤ 999) (hh : h ≤ 999) (hm : m ≤ 999) : (blHd p h m).length ≤ 38 := by
  have h1 := dec_len hp
  have h2 := dec_len hh
  have h3 := dec_len hm
  simp [blHd]; omega
theorem bl_len {p h m : Int} {l : List Int} (hb : BlOk p h m l) : (blT p h m l).length ≤ 200 := by
  have h1 := blHd_len (p := p) (h := h) (m := m) (by have := hb.p; omega) (by have := hb.h; omega) (by have := hb.m; omega)
  have h2 : (txsT l).length ≤ 100 := by
    unfold txsT
    by_cases e : l = []
    · rw [if_pos e]; simp
    · rw [if_neg e]; exact plus_len hb.n fun k hk => by have := hb.t k hk; omega
  simp [blT]; omega
end Go.Proofs.YtlacmcedpphphaaGreatDoor
