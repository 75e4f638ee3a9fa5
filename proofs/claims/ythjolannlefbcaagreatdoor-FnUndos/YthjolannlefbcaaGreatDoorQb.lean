/- Does the purse lack a ref; has it just the refs of a transaction? -/
import Derived.Test.YthjolannlefbcaaGreatDoorQa
namespace Go.Proofs.YthjolannlefbcaaGreatDoor
open Go.RowKit Go.Maps Go.WideMaps

set_option maxRecDepth 20000 in
set_option maxHeartbeats 2000000 in
theorem lacks_any (B lo : Nat) (p q : Int) (ps : List (Co × Value)) (w : World) (hP : Pu w lo B ps) (hp : (Lit.int .i64 p).wf = true) (hq : (Lit.int .i64 q).wf = true) :
    Calls Tryz.prog 92 #[.map (some B), .agg #[.int .i64 p, .int .i64 q]] w fun e w' => e = .returned (.bool (!hasC (ps.map (·.1)) (p, q))) ∧ Below w.heap.size w w' := by
  have hbx : Below w.heap.size w (w.alloc (.cells #[.int .i64 p, .int .i64 q] 38)) := below_box _
  obtain ⟨s0, s1⟩ := cells2 (heap_alloc_new w (.cells #[.int .i64 p, .int .i64 q] 38))
  rw [has_map]
  cases hf : findP ps (p, q) with
  | none =>
    have hl := (hP.below hbx).lacks hf hp hq
    have HB : Hid (Below w.heap.size w ((w.alloc (.cells #[.int .i64 p, .int .i64 q] 38)).alloc (.cells #[.int .i64 0, .int .i64 0, .int .i64 0, .slice none 0 0, .int .i64 0, .int .i64 0, .int .i64 0, .bool false] 75))) := below_box2 _ _
    clear hP hf hp hq hbx
    go_enter Tryz.func92, Tryz.ntmps92
    go_wp2
    go_ret
    exact ⟨rfl, HB.out⟩
  | some x =>
    obtain ⟨ua, uc, hu, hl⟩ := (hP.below hbx).found hf hp hq
    have HB : Hid (Below w.heap.size w ((w.alloc (.cells #[.int .i64 p, .int .i64 q] 38)).alloc (.cells #[.int .i64 x.1.p, .int .i64 x.1.q, .int .i64 x.1.v, .slice ua x.1.l.length uc, .int .i64 x.1.x, .int .i64 x.1.y, .int .i64 x.1.h, .bool x.1.m] 75))) := below_box2 _ _
    clear hP hf hp hq hbx hu
    go_enter Tryz.func92, Tryz.ntmps92
    go_wp2
    go_ret
    exact ⟨rfl, HB.out⟩

theorem ref_mem {rs : List (Int × Int)} {n j : Nat} {o : Int × Int} (hn : rs.length = n) (hlt : j < n) (ho : o = rs.getD j G0) : o ∈ rs := by
  rw [ho, List.getD, List.getElem?_eq_getElem (by omega)]
  exact List.getElem_mem _
theorem all_get {rs : List (Int × Int)} {n : Nat} {f : Int × Int → Bool} (hn : rs.length = n) (h : ∀ t, t < n → f (rs.getD t G0) = true) : rs.all f = true := by
  rw [List.all_eq_true]
  intro x hx
  obtain ⟨t, ht, rfl⟩ := List.getElem_of_mem hx
  have := h t (by omega)
  rw [List.getD, List.getElem?_eq_getElem ht] at this
  exact this
theorem all_not {rs : List (Int × Int)} {n t : Nat} {f : Int × Int → Bool} (hn : rs.length = n) (ht : t < n) (h : f (rs.getD t G0) = false) : rs.all f = false := by
  rw [List.all_eq_false]
  exact ⟨rs.getD t G0, ref_mem hn ht rfl, by rw [h]; exact Bool.false_ne_true⟩
def IdxR (w w' : World) (e : Ending) (b : Bool) : Prop := ∃ i : Int, e = .returned (.int .i64 i) ∧ (b = true → i = -1) ∧ (b = false → 0 ≤ i) ∧ Below w.heap.size w w'

set_option maxRecDepth 20000 in
set_option maxHeartbeats 2000000 in
theorem idxLacks_any (n c B lo : Nat) (a : Option Addr) (rs : List (Int × Int)) (ps : List (Co × Value)) (w : World) (hn : n ≤ 1000) (hG : GAt w a n rs) (hr : ∀ r ∈ rs, refB r = true) (hP : Pu w lo B ps) :
    Calls Tryz.prog 140 #[.slice a n c, .func (.func 92) #[.map (some B)] #[]] w fun e w' => IdxR w w' e (rs.all (hasC (ps.map (·.1)))) := by
  have HC : Hid (GAt w a n rs) := hG
  have HN : Hid (rs.length = n) := hG.1
  obtain ⟨pd, hpd⟩ : ∃ q : Int × Int → Bool, q = hasC (ps.map (·.1)) := ⟨_, rfl⟩
  have HCA : Hid (∀ W (p q : Int), Below w.heap.size w W → (p, q) ∈ rs → Calls Tryz.prog 92 #[.map (some B), .agg #[.int .i64 p, .int .i64 q]] W fun e w' => e = .returned (.bool (!pd (p, q))) ∧ Below W.heap.size W w') := fun W p q hW hs => by
    rw [hpd]; exact lacks_any B lo p q ps W (hP.below hW) (ref_wf (hr _ hs)).1 (ref_wf (hr _ hs)).2
  rw [← hpd]
  clear hG hr hP hpd
  go_enter Tryz.func140, Tryz.ntmps140
  go_wp2
  go_loopw [8] (fun i wr => ∃ j : Nat, j ≤ n ∧ i = .int .i64 j ∧ Below w.heap.size w wr ∧ Hid (∀ t, t < j → pd (rs.getD t G0) = true)) (fun i _ => n - (intOf i).toNat)
  case atStart => exact ⟨0, Nat.zero_le _, rfl, Below.refl _ _, fun t ht => by omega⟩
  case round =>
    obtain ⟨j, hj, rfl, hbel, HI⟩ := hrel
    by_cases hlt : j < n
    · rcases HC.out.2 with h0 | ⟨b, off, e0, l0, d0⟩
      · omega
      subst e0
      obtain ⟨o, ho⟩ : ∃ o, o = rs.getD j G0 := ⟨_, rfl⟩
      obtain ⟨y0, y1⟩ := d0 j hlt
      rw [← ho] at y0 y1
      have x0 := (hbel.cell (p := ⟨b, off + j * 2, none⟩) l0).trans y0
      have x1 := (hbel.cell (p := ⟨b, off + j * 2 + 1, none⟩) l0).trans y1
      have hmem := ref_mem HN.out hlt ho
      have HS : Hid (o = rs.getD j G0) := ho
      obtain ⟨op, oq⟩ := o
      simp only at x0 x1
      have hca := HCA.out wr op oq hbel hmem
      obtain ⟨mb, hmb⟩ : ∃ b, b = pd (op, oq) := ⟨_, rfl⟩
      rw [← hmb] at hca
      have HMB : Hid (mb = pd (op, oq)) := hmb
      have hki : (j : Int) < (n : Int) := by omega
      clear d0 ho hmb y0 y1 hmem
      cases mb
      · have HFI : Hid (rs.all pd = false) := all_not HN.out hlt (by rw [← HS.out]; exact HMB.out.symm)
        go_wp2_with (first | (go_at_call 92; (with_reducible refine hca.mono ?_); clear hca; rintro e w2 ⟨rfl, hb2⟩))
        go_ret
        exact ⟨_, rfl, fun e => (by rw [HFI.out] at e; cases e), fun _ => (by omega), hbel.trans (hb2.mono hbel.size)⟩
      · have HIN : Hid (∀ t, t < j + 1 → pd (rs.getD t G0) = true) := fun t ht => by
          rcases Nat.lt_or_ge t j with h1 | h1
          · exact HI.out t h1
          · obtain rfl : t = j := by omega
            rw [← HS.out]; exact HMB.out.symm
        go_wp2_with (first | (go_at_call 92; (with_reducible refine hca.mono ?_); clear hca; rintro e w2 ⟨rfl, hb2⟩))
        go_roundw
        case rel => exact ⟨j + 1, by omega, by go_num, hbel.trans (hb2.mono hbel.size), HIN⟩
        case measure => simp [intOf]; omega
    · have HFI : Hid (rs.all pd = true) := all_get HN.out fun t ht => HI.out t (by omega)
      have hki : ¬ (j : Int) < (n : Int) := by omega
      go_wp2
      go_ret
      exact ⟨_, rfl, fun _ => rfl, fun e => (by rw [HFI.out] at e; cases e), hbel⟩

theorem containsLacks_any (n c B lo : Nat) (a : Option Addr) (rs : List (Int × Int)) (ps : List (Co × Value)) (w : World) (hn : n ≤ 1000) (hG : GAt w a n rs) (hr : ∀ r ∈ rs, refB r = true) (hP : Pu w lo B ps) :
    Calls Tryz.prog 120 #[.slice a n c, .func (.func 92) #[.map (some B)] #[]] w fun e w' => e = .returned (.bool (!rs.all (hasC (ps.map (·.1))))) ∧ Below w.heap.size w w' := by
  have hI := idxLacks_any n c B lo a rs ps w hn hG hr hP
  obtain ⟨b, hb⟩ : ∃ b, b = rs.all (hasC (ps.map (·.1))) := ⟨_, rfl⟩
  rw [← hb] at hI ⊢
  clear hb hG hr hP
  cases b
  · have hI' : Calls Tryz.prog 140 #[.slice a n c, .func (.func 92) #[.map (some B)] #[]] w fun e w' => ∃ i : Int, e = .returned (.int .i64 i) ∧ 0 ≤ i ∧ Below w.heap.size w w' := hI.mono fun e w' ⟨i, h1, _, h3, h4⟩ => ⟨i, h1, h3 rfl, h4⟩
    clear hI
    go_enter Tryz.func120, Tryz.ntmps120
    go_wp2_with (first | (go_at_call 140; (with_reducible refine hI'.mono ?_); clear hI'; rintro e w2 ⟨i, rfl, hi, hb2⟩; have hge : decide (i ≥ 0) = true := decide_eq_true hi))
    go_ret
    exact ⟨by simp, hb2⟩
  · have hI' : Calls Tryz.prog 140 #[.slice a n c, .func (.func 92) #[.map (some B)] #[]] w fun e w' => e = .returned (.int .i64 (-1)) ∧ Below w.heap.size w w' := hI.mono fun e w' ⟨i, h1, h2, _, h4⟩ => by rw [h2 rfl] at h1; exact ⟨h1, h4⟩
    clear hI
    go_enter Tryz.func120, Tryz.ntmps120
    go_wp2_with (first | (go_at_call 140; (with_reducible refine hI'.mono ?_); clear hI'; rintro e w2 ⟨rfl, hb2⟩))
    go_ret
    exact ⟨rfl, hb2⟩

set_option maxHeartbeats 1000000 in
theorem isJust_any (n c B lo : Nat) (a : Option Addr) (rs : List (Int × Int)) (ps : List (Co × Value)) (w : World) (hn : n ≤ 1000) (_hps : ps.length ≤ 1000) (hG : GAt w a n rs) (hr : ∀ r ∈ rs, refB r = true) (hP : Pu w lo B ps) :
    Calls Tryz.prog 90 #[.map (some B), .slice a n c] w fun e w' => e = .returned (.bool (justB (ps.map (·.1)) rs)) ∧ Below w.heap.size w w' := by
  have hK := containsLacks_any n c B lo a rs ps w hn hG hr hP
  have hlen := hP.len
  obtain ⟨b, hb⟩ : ∃ b, b = rs.all (hasC (ps.map (·.1))) := ⟨_, rfl⟩
  obtain ⟨m, hm⟩ : ∃ m, m = ps.length := ⟨_, rfl⟩
  have hj : justB (ps.map (·.1)) rs = (decide (m = n) && b) := by unfold justB; rw [List.length_map, ← hm, hG.1, ← hb]
  rw [hj]
  rw [← hb] at hK
  rw [← hm] at hlen
  clear hb hG hr hP hj hm
  by_cases e : m = n
  · have e1 : ((m : Int) == (n : Int)) = true := by simp [e]
    have HE : Hid (m = n) := e
    clear e
    go_enter Tryz.func90, Tryz.ntmps90
    go_wp2_with (first | (go_at_call 120; (with_reducible refine hK.mono ?_); clear hK; rintro e w2 ⟨rfl, hb2⟩))
    go_ret
    exact ⟨by rw [decide_eq_true HE.out]; simp, hb2⟩
  · have e1 : ((m : Int) == (n : Int)) = false := by simpa using (fun h => e (by omega))
    have HE : Hid (¬ m = n) := e
    clear e hK
    go_enter Tryz.func90, Tryz.ntmps90
    go_wp2
    go_ret
    exact ⟨by rw [decide_eq_false HE.out]; rfl, Below.refl _ _⟩

end Go.Proofs.YthjolannlefbcaaGreatDoor
