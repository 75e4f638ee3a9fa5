/- The program's map of who is bad; it strikes them from a list of its own. -/
import Derived.Test.YtmnahhojfcigmaaUa
import Derived.Test.YtmnahhojfcigmaaNa
import Derived.Test.YtmnahhojfcigmaaNb
import Derived.Test.YtmnahhojfcigmaaEn
import Derived.Test.YtmnahhojfcigmaaEo
import Derived.Lib.SliceRun
namespace Go.Proofs.Ytmnahhojfcigmaa
open Go.RowKit Go.Maps Go.WideMaps

theorem zeroU (w : World) : (zeroValue 84).run Try.prog w = .ok (.agg #[]) w := by kernel_rfl
/-- The map in block B tells who is bad. -/
def Bks (w : World) (B : Nat) (t : List Int) : Prop :=
  ∃ D : DataW Value, w.ownsMap Try.prog 2 RvP B t.length D ∧ ∀ id kl, keyOf Try.prog 2 (.int .i64 id) = some kl → D.atKey kl (.held (.agg #[])) = .held (.agg #[]) ∧ Maps.has D kl = hasK t id
theorem Bks.lt {w : World} {B : Nat} {t : List Int} (h : Bks w B t) : B < w.heap.size := by obtain ⟨D, ho, _⟩ := h; exact ho.lt
theorem Bks.kept {w w' : World} {B : Nat} {t : List Int} {row : Option Nat} (h : Bks w B t) (hg : w.grownBy w' row) (hne : some B ≠ row) : Bks w' B t := by
  obtain ⟨D, ho, ha⟩ := h
  exact ⟨D, ho.kept hg hne, ha⟩
theorem Bks.below {w w' : World} {B : Nat} {t : List Int} (h : Bks w B t) (hb : Below w.heap.size w w') : Bks w' B t := h.kept (grown_of_below hb) (by simp)
theorem Bks.made (w : World) : Bks (w.alloc (.map #[] 0)) w.heap.size [] :=
  ⟨.map [], World.ownsMap_made _ _ _ _, fun _ _ _ => ⟨rfl, by simp [hasK]; rfl⟩⟩
theorem Bks.look {w : World} {B : Nat} {t : List Int} (h : Bks w B t) {id : Int} (hw : (Lit.int .i64 id).wf = true) :
    (Instr.lookup 58 (.map (some B)) (.int .i64 id) true).run Try.prog w = .ok (.tuple #[.agg #[], .bool (hasK t id)]) w := by
  obtain ⟨D, ho, hat⟩ := h
  have hk := keyOf_int_mk (P := Try.prog) Try.underlying2 hw
  obtain ⟨v, pl, hrun, hv⟩ := ho.look_ok kN Try.underlying58 (zeroU w) (zd := .held (.agg #[])) (zp := []) rfl hk
  obtain ⟨h1, h2⟩ := hat id _ hk
  rw [h1] at hv
  have : v = .agg #[] := (show v = .agg #[] ∧ pl = [] by simpa [RvP] using hv).1
  rw [hrun, h2, this]
theorem Bks.store {w : World} {B : Nat} {t : List Int} (h : Bks w B t) {k : Int} (hw : (Lit.int .i64 k).wf = true) (hl : t.length ≤ 1000) :
    ∃ w', (Instr.mapUpdate 58 (.map (some B)) (.int .i64 k) (.agg #[])).run Try.prog w = .ok () w' ∧ Bks w' B (t ++ [k]) ∧ w.grownBy w' (some B) := by
  obtain ⟨D, ho, hat⟩ := h
  have hk := keyOf_int_mk (P := Try.prog) Try.underlying2 hw
  obtain ⟨w', hrun, ho', hg⟩ := ho.update kN Try.underlying58 (by unfold maxLen; omega) hk (val := .agg #[]) (d := .held (.agg #[])) (ps := []) rfl
  refine ⟨w', hrun, ⟨_, by simpa using ho', fun id kl hy => ?_⟩, hg⟩
  by_cases e : k = id
  · subst e
    rw [hk] at hy
    cases hy
    refine ⟨atKey_put_same ho.isMap (kN.key hk) _ _, ?_⟩
    rw [has_put_same ho.isMap (kN.key hk)]
    exact (hasK_yes (by simp)).symm
  · have hne : kl ≠ Lit.int .i64 k := fun e2 => e (by have := kN.inj (by rw [e2] at hy; exact hy) hk; simpa using this.symm)
    rw [atKey_put_other hne, has_put_other hne]
    refine ⟨(hat id kl hy).1, (hat id kl hy).2.trans ?_⟩
    simp [hasK, Ne.symm e]

theorem wf_key {k : Int} (h : inB k 1 999 = true) : (Lit.int .i64 k).wf = true := wf_in h (by omega) (by omega)

set_option maxRecDepth 20000 in
set_option maxHeartbeats 2000000 in
theorem badKeysOf_any (n cap : Nat) (a : Option Addr) (t : List Int) (w : World) (hn : n ≤ 20) (hI : IAt w a n t) (hk : allK t = true) :
    Calls Try.prog 25 #[.slice a n cap] w fun e w' => ∃ B, e = .returned (.map (some B)) ∧ w.heap.size ≤ B ∧ Hid (Bks w' B t) ∧ Below w.heap.size w w' := by
  have HI : Hid (IAt w a n t) := hI
  have HN : Hid (t.length = n) := hI.1
  have HK : Hid (allK t = true) := hk
  have hmm := @run_makeMap Try.prog
  clear hI hk
  go_enter Try.func25, Try.ntmps25
  go_wp2
  go_loopw [9] (fun i wr => ∃ j : Nat, j ≤ n ∧ i = .int .i64 j ∧ Below w.heap.size w wr ∧ Hid (Bks wr w.heap.size (t.take j))) (fun i _ => n - (intOf i).toNat)
  case atStart => exact ⟨0, Nat.zero_le _, rfl, below_box _, Bks.made w⟩
  case round =>
    obtain ⟨j, hj, rfl, hbel, HB⟩ := hrel
    by_cases hlt : j < n
    · rcases HI.out.2 with h0 | ⟨b0, o0, e0, l0, d0⟩
      · omega
      subst e0
      obtain ⟨s, hs⟩ : ∃ s, s = t.getD j 0 := ⟨_, rfl⟩
      have x0 := (hbel.cell (p := ⟨b0, o0 + j, none⟩) l0).trans (d0 j hlt)
      rw [← hs] at x0
      have hks : inB s 1 999 = true := by
        have h1 := HK.out
        unfold allK at h1
        rw [List.all_eq_true] at h1
        exact h1 s (mem_hit HN.out hlt hs rfl)
      obtain ⟨w5, hrun, HB5, hg5⟩ := HB.out.store (wf_key hks) (by rw [List.length_take]; omega)
      have HT : Hid (Bks w5 w.heap.size (t.take (j + 1))) := by show Bks _ _ _; rw [take_next HN.out hlt hs]; exact HB5
      have HB6 : Hid (Below w.heap.size w w5) := hbel.grown hg5 hbel.size (fun k hk => by cases hk; exact Nat.le_refl _)
      have hki : (j : Int) < (n : Int) := by omega
      clear hs d0 hks HB5 hg5
      go_wp2
      go_roundw
      case rel => exact ⟨j + 1, by omega, by go_num, HB6.out, HT⟩
      case measure => simp [intOf]; omega
    · have HTF : Hid (t.take j = t) := take_all HN.out hlt
      have hki : ¬ (j : Int) < (n : Int) := by omega
      go_wp2
      go_ret
      exact ⟨w.heap.size, rfl, Nat.le_refl _, by have := HB.out; rw [HTF.out] at this; exact this, hbel⟩

set_option maxHeartbeats 1000000 in
theorem has_any (B : Nat) (t : List Int) (s : Int) (w : World) (hB : Bks w B t) (hs : (Lit.int .i64 s).wf = true) :
    Calls Try.prog 42 #[.map (some B), .int .i64 s] w fun e w' => e = .returned (.bool (hasK t s)) ∧ Below w.heap.size w w' := by
  have hl := hB.look hs
  clear hB
  go_enter Try.func42, Try.ntmps42
  go_wp2
  go_ret
  exact ⟨rfl, below_box _⟩

def IdxPi (ms : List Int) (n : Nat) (p : Int → Bool) (i : Int) : Prop := (i = -1 ∧ ∀ t, t < n → p (ms.getD t 0) = false) ∨ ∃ k : Nat, k < n ∧ i = k ∧ (∀ t, t < k → p (ms.getD t 0) = false) ∧ p (ms.getD k 0) = true
def IdxOi (w w' : World) (e : Ending) (ms : List Int) (n : Nat) (p : Int → Bool) : Prop := ∃ i : Int, e = .returned (.int .i64 i) ∧ IdxPi ms n p i ∧ Below w.heap.size w w'

set_option maxRecDepth 20000 in
set_option maxHeartbeats 2000000 in
theorem idxHas_any (n c B : Nat) (a : Option Addr) (l t : List Int) (w : World) (hn : n ≤ 1000) (hI : IAt w a n l) (hk : allK l = true) (hB : Bks w B t) :
    Calls Try.prog 61 #[.slice a n c, .func (.func 42) #[.map (some B)] #[]] w fun e w' => IdxOi w w' e l n (hasK t) := by
  have HC : Hid (IAt w a n l) := hI
  have HN : Hid (l.length = n) := hI.1
  have HK : Hid (∀ s ∈ l, (Lit.int .i64 s).wf = true) := fun s hs => by
    unfold allK at hk
    rw [List.all_eq_true] at hk
    exact wf_key (hk s hs)
  have HBK : Hid (Bks w B t) := hB
  obtain ⟨pd, hpd⟩ : ∃ q : Int → Bool, q = hasK t := ⟨_, rfl⟩
  have HCA : Hid (∀ W (s : Int), Below w.heap.size w W → s ∈ l → Calls Try.prog 42 #[.map (some B), .int .i64 s] W fun e w' => e = .returned (.bool (pd s)) ∧ Below W.heap.size W w') := fun W s hW hs => by rw [hpd]; exact has_any B t s W (HBK.out.below hW) (HK.out s hs)
  rw [← hpd]
  clear hI hk hB hpd
  go_enter Try.func61, Try.ntmps61
  go_wp2
  go_loopw [8] (fun i wr => ∃ j : Nat, j ≤ n ∧ i = .int .i64 j ∧ Below w.heap.size w wr ∧ Hid (∀ t, t < j → pd (l.getD t 0) = false)) (fun i _ => n - (intOf i).toNat)
  case atStart => exact ⟨0, Nat.zero_le _, rfl, Below.refl _ _, fun t ht => by omega⟩
  case round =>
    obtain ⟨j, hj, rfl, hbel, HI⟩ := hrel
    by_cases hlt : j < n
    · rcases HC.out.2 with h0 | ⟨b, off, e0, l0, d0⟩
      · omega
      subst e0
      obtain ⟨o, ho⟩ : ∃ o, o = l.getD j 0 := ⟨_, rfl⟩
      have x0 := (hbel.cell (p := ⟨b, off + j, none⟩) l0).trans (d0 j hlt)
      rw [← ho] at x0
      have HS : Hid (o = l.getD j 0) := ho
      have hca := HCA.out wr o hbel (mem_hit HN.out hlt ho rfl)
      obtain ⟨mb, hmb⟩ : ∃ b, b = pd o := ⟨_, rfl⟩
      rw [← hmb] at hca
      have HMB : Hid (mb = pd o) := hmb
      have hki : (j : Int) < (n : Int) := by omega
      clear d0 ho hmb
      cases mb
      · have HIN : Hid (∀ t, t < j + 1 → pd (l.getD t 0) = false) := fun t ht => by
          rcases Nat.lt_or_ge t j with h1 | h1
          · exact HI.out t h1
          · obtain rfl : t = j := by omega
            rw [← HS.out]; exact HMB.out.symm
        go_wp2_with (first | (go_at_call 42; (with_reducible refine hca.mono ?_); clear hca; rintro e w2 ⟨rfl, hb2⟩))
        go_roundw
        case rel => exact ⟨j + 1, by omega, by go_num, hbel.trans (hb2.mono hbel.size), HIN⟩
        case measure => simp [intOf]; omega
      · have HFI : Hid (IdxPi l n pd (j : Int)) := .inr ⟨j, hlt, rfl, HI.out, by rw [← HS.out]; exact HMB.out.symm⟩
        go_wp2_with (first | (go_at_call 42; (with_reducible refine hca.mono ?_); clear hca; rintro e w2 ⟨rfl, hb2⟩))
        go_ret
        exact ⟨_, rfl, HFI.out, hbel.trans (hb2.mono hbel.size)⟩
    · have HFI : Hid (IdxPi l n pd (-1)) := .inl ⟨rfl, fun t ht => HI.out t (by omega)⟩
      have hki : ¬ (j : Int) < (n : Int) := by omega
      go_wp2
      go_ret
      exact ⟨_, rfl, HFI.out, hbel⟩

end Go.Proofs.Ytmnahhojfcigmaa
