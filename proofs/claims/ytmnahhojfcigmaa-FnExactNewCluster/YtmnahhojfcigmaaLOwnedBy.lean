/- What a key alone can spend: among keys, the specification's sum and the program's; OwnedBy. -/
import Derived.Test.YtmnahhojfcigmaaTxA
import Derived.Test.YtmnahhojfcigmaaRu
import Derived.Test.YtmnahhojfcigmaaOpR
import Derived.Deep.Slices
import Derived.Test.YtmnahhojfcigmaaIdOf
namespace Go.Proofs.Ytmnahhojfcigmaa
open Go.RowKit Go.Maps Go.WideMaps

theorem mem_take_next {l : List Int} {n k : Nat} {s v : Int} (hn : l.length = n) (hlt : k < n) (hs : s = l.getD k 0) (h : v ∉ l.take k) (hv : ¬ s = v) : v ∉ l.take (k + 1) := by
  rw [take_next hn hlt hs, List.mem_append]
  rintro (h' | h')
  · exact h h'
  · exact hv (List.mem_singleton.1 h').symm
theorem mem_hit {l : List Int} {n k : Nat} {s v : Int} (hn : l.length = n) (hlt : k < n) (hs : s = l.getD k 0) (hv : s = v) : v ∈ l := by
  rw [← hv, hs]
  have e : l.getD k 0 = l[k]'(by omega) := by simp [List.getD, List.getElem?_eq_getElem (show k < l.length by omega)]
  rw [e]; exact List.getElem_mem _

def hasK (l : List Int) (v : Int) : Bool := decide (v ∈ l)
theorem hasK_yes {l : List Int} {v : Int} (h : v ∈ l) : hasK l v = true := decide_eq_true h
theorem hasK_no {l : List Int} {v : Int} (h : v ∉ l) : hasK l v = false := decide_eq_false h

theorem l4Among_any (a : Option Addr) (n cap : Nat) (l : List Int) (v : Int) (w : World) (hl : n ≤ maxLen) (hs : IAt w a n l) :
    Calls Try.prog 31 #[.slice a n cap, .int .i64 v] w fun e w' => e = .returned (.bool (hasK l v)) ∧ w' = w := by
  unfold maxLen at hl
  have HN : Hid (l.length = n) := hs.1
  have HSS : Hid (IAt w a n l) := hs
  obtain ⟨r, hr⟩ : ∃ r, r = hasK l v := ⟨_, rfl⟩
  rw [← hr]
  have HR : Hid (r = hasK l v) := hr
  clear hs hr
  go_enter Try.func31, Try.ntmps31
  go_wp2
  go_loopw [5] (fun i wr => ∃ k : Nat, k ≤ n ∧ i = .int .i64 k ∧ Hid (v ∉ l.take k) ∧ wr = w) (fun i _ => n - (intOf i).toNat)
  case atStart => exact ⟨0, Nat.zero_le _, rfl, by show v ∉ _; simp, rfl⟩
  case round =>
    obtain ⟨k, hk, rfl, HJ, hw⟩ := hrel
    have hw2 := hw.symm
    subst hw2
    by_cases hlt : k < n
    · rcases HSS.out.2 with h0 | ⟨b, off, ha, hb, hc⟩
      · omega
      subst ha
      obtain ⟨s, hsx⟩ : ∃ s, s = l.getD k 0 := ⟨_, rfl⟩
      have hcx := hc k hlt
      rw [← hsx] at hcx
      have HS : Hid (s = l.getD k 0) := hsx
      clear hc hsx
      have hki : (k : Int) < (n : Int) := by omega
      by_cases hv : s = v
      · obtain rfl : r = true := by rw [HR.out]; exact hasK_yes (mem_hit HN.out hlt HS.out hv)
        have e : (s == v) = true := by simp [hv]
        have H1 : Hid (s = v) := hv
        clear hv
        go_wp2
        go_ret
        exact ⟨rfl, rfl⟩
      · have e : (s == v) = false := by simp [hv]
        have H1 : Hid (¬ s = v) := hv
        clear hv
        go_wp2
        go_roundw
        case rel => exact ⟨k + 1, by omega, by go_num, mem_take_next HN.out hlt HS.out HJ.out H1.out, (by first | rfl | trivial)⟩
        case measure => simp [intOf]; omega
    · obtain rfl : r = false := by rw [HR.out]; exact hasK_no (by have := HJ.out; rwa [take_all HN.out hlt] at this)
      go_wp2
      go_ret
      exact ⟨rfl, rfl⟩

end Go.Proofs.Ytmnahhojfcigmaa
