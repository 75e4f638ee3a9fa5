/- The keys that a text spells, gathered in a row of their own. -/
import Derived.Test.YtciefdphjkjikaaGreatDoorAh
import Derived.RangeFuncBox
import Derived.Maps.OwnIn
import Derived.Maps.AppendAt
namespace Go.Proofs.YtciefdphjkjikaaGreatDoor
open Go.RowKit Go.Shelf Go.Maps Go.WideMaps
attribute [local go_sem] Oper.semAt_some

/-- What the gathering keeps. -/
def GathI (w : World) (pre : List Int) (W : World) : Prop := (∃ v, Boxed W w.heap.size 40 v ∧ W.ownsRow w.heap.size 2 1 v pre.length (ints pre)) ∧ Below w.heap.size w W
theorem GathI.own {w : World} {p : Nat → Prop} (hp : ∀ r, p r → w.heap.size < r) : OwnBy p (GathI w) := by
  rintro s A C row ⟨⟨v, hv, hrow⟩, hB⟩ hg hr
  refine ⟨⟨v, hv.kept hg (fun e => ?_), hrow.kept hg ?_⟩, hB.grown hg hB.size (fun k e => Nat.le_of_lt (hp k (hr k e).1))⟩
  · have := hp _ (hr _ e.symm).1; omega
  · rcases hrow.2 with ⟨rfl, _⟩ | ⟨g, cap, cur, rfl, _, hgb, _⟩
    · exact .inl rfl
    · refine .inr fun e' => ?_
      obtain ⟨_, o, ho, ht⟩ := hr g (by simpa [Value.ownBlock] using e'.symm)
      rw [hgb] at ho
      cases ho
      rcases ht with q | ⟨cs, fz, q⟩
      · cases q
      · injection q with _ h _
        exact absurd h (by decide)
/-- An append turns a row of numbers alone. -/
theorem appended_kept {W w1 : World} {B : Nat} {v v' : Value} {n0 k : Nat} {xs : List Value} {tmp : Obj} {q : Nat → Obj → Prop} (hrow : W.ownsRow n0 2 1 v k xs) (hq : ∀ j o, q j o → j ≠ B ∧ (n0 ≤ j → NoInts o)) (hgrow : (W.alloc tmp).grownBy w1 v.ownBlock) : KeptK q W (w1.setCell ⟨B, 0, none⟩ v') := by
  intro j o hj hp
  obtain ⟨h1, h2⟩ := hq j o hp
  refine (Below.heap_setCell _ ⟨B, 0, none⟩ _ j h1).trans ((hgrow.block j (by have := lt_of_block hj; simp; omega) (fun e => ?_)).trans ((Below.heap_alloc _ _ _ (lt_of_block hj)).trans hj))
  rcases hrow.2 with ⟨rfl, _⟩ | ⟨g, cap, cur, rfl, hb, hgb, _⟩
  · simp [Value.ownBlock] at e
  · obtain rfl : j = g := by simpa [Value.ownBlock] using e
    rw [hgb] at hj
    cases hj
    exact h2 hb _ _ rfl

set_option maxRecDepth 100000 in
set_option maxHeartbeats 2000000 in
theorem appendSeqI (Bt : Nat) (t : List UInt8) (w : World) (ht : t.length ≤ 1048576) (hBt : w.heap[Bt]? = some (.cells #[.string (str t)] 9 (0, 0))) (hE : Erv w) :
    Calls Tryz.prog 117 #[.slice none 0 0, .func (.func 118) #[] #[.pointer (some ⟨Bt, 0, none⟩)]] w fun e w' =>
      ∃ v, e = .returned v ∧ w'.ownsRow w.heap.size 2 1 v ((cutL 44 t).map looseN).length (ints ((cutL 44 t).map looseN)) ∧ Below w.heap.size w w' := by
  obtain ⟨i0, hi, hz0, hz1, hz2⟩ := info_parts Tryz.infoI64
  obtain ⟨ks, hks⟩ : ∃ ks, (cutL 44 t).map looseN = ks := ⟨_, rfl⟩
  have hT := readKeys_tell Bt t w ht hBt hE
  rw [hks] at hT ⊢
  refine (callsIn_wide (n := 3)).1 ?_
  refine callsIn_of_wp_marks Tryz.func117 rfl trivial ?_ rfl
  simp only [Tryz.ntmps117, List.size_toArray, List.length_cons, List.length_nil, Nat.reduceAdd, Nat.reduceSub, Array.replicate_succ, Array.replicate_zero, List.push_toArray, List.append_toArray, List.nil_append, List.cons_append]
  gi_wp2
  have bO := Boxed.new w 40 (.slice none 0 0)
  have hB0 : Below w.heap.size w (w.alloc (.cells #[.slice none 0 0] 40)) := below_box _
  have hs1 : (w.alloc (.cells #[.slice none 0 0] 40)).heap.size = w.heap.size + 1 := by simp
  refine range_allK (by omega) (gf := 118) (lb := #[.pointer (some ⟨Bt, 0, none⟩)]) rfl (enters_of Tryz.func118 (by kernel_rfl) rfl)
    hT (fun r e => e.elim) (fun r o e => e) hB0.size (KeptK.of_below hB0) (fun _ => rfl)
    (GathI w) (GathI.own (fun r e => by rcases e with q | q
                                        · omega
                                        · exact q.elim)) ⟨⟨_, bO, World.ownsRow_nil _ _ _ _⟩, hB0⟩
    (fun x => { tmps := #[.slice none 0 0, .func (.func 118) #[] #[.pointer (some ⟨Bt, 0, none⟩)], .pointer (some ⟨w.heap.size, 0, none⟩), undef, .slice none 0 0, .int .i64 x, .func (.func 118) #[] #[.pointer (some ⟨Bt, 0, none⟩)], .int .i64 x, undef, undef, undef, undef, undef], defers := [] }) ?assign ?body ?done
  case assign =>
    intro l x V K hK
    gi_wp2
    exact hK
  case body =>
    rintro l pre x W hx ⟨⟨v, hv, hrow⟩, hB⟩ hlen
    have hc := hv.cell
    have hsz := hB.size
    have hkk : ∀ (tmp : Obj) (w1 : World) (v' : Value), (W.alloc tmp).grownBy w1 v.ownBlock → KeptK (fun k o => k < w.heap.size ∨ ((w.alloc (.cells #[.slice none 0 0] 40)).heap.size ≤ k ∧ NoInts o)) W (w1.setCell ⟨w.heap.size, 0, none⟩ v') := fun tmp w1 v' hg => appended_kept hrow (fun j o e => by
      rcases e with q | q
      · exact ⟨by omega, fun _ => by omega⟩
      · exact ⟨by have := q.1; omega, fun _ => q.2⟩) hg
    have HKK := show Hid _ from hkk
    clear hkk
    have hlm : pre.length + 1 ≤ maxLen := by unfold maxLen; omega
    gi_wp2_with (gi_at_builtin; refine wpListIn_append_own _ rfl _ _ 40 rfl w.heap.size 2 i0 (.int .i64 0) 1 8 Tryz.underlying40 hi hz0 hz1 hz2 rfl (by decide) _ _ _ rfl (hrow.alloc _) ⟨W.heap.size, 0, none⟩ 1 1 [.int .i64 x] rfl rfl (World.news_of_block (heap_alloc_new _ _)) (by simp [Value.oneCell']) (by unfold maxLen; omega) (by omega) (by have := hB.size; simp; omega) ?_; intro v' w1 hown' hgrow _; obtain ⟨g', cap', rfl⟩ := ownsRow_succ hown'; have hkp := HKK.out _ w1 (.slice (some ⟨g', 0, none⟩) (pre.length + 1) cap') hgrow; obtain ⟨hv1, hv2, hr2, hk2, hb2⟩ := hv.appended (by decide) hrow hB.size (Nat.le_refl _) hown' hgrow; have hc1 := hv1.cell; have hf1 := hv1.frozen)
    refine ⟨by simpa only [hs1] using hkp, ⟨_, hv2, by simpa [ints] using hr2⟩, hB.trans hb2⟩
  case done =>
    rintro D W hD ⟨⟨v, hv, hrow⟩, hB⟩ hK
    have hc := hv.cell
    gi_wp2
    refine ⟨by simp, .inl ⟨_, _, rfl, run_takeDeferred hK, ?_⟩⟩
    exact ⟨_, results_tmp rfl _ _ _, v, rfl, ownsRow_putObj hrow _ hK rfl, hB.trans (belowK_b (w := w) (Nat.le_refl _) W D _ _ (by omega) hK rfl rfl)⟩

set_option maxHeartbeats 1000000 in
theorem collectI (Bt : Nat) (t : List UInt8) (w : World) (ht : t.length ≤ 1048576) (hBt : w.heap[Bt]? = some (.cells #[.string (str t)] 9 (0, 0))) (hE : Erv w) :
    Calls Tryz.prog 103 #[.func (.func 118) #[] #[.pointer (some ⟨Bt, 0, none⟩)]] w fun e w' =>
      ∃ v, e = .returned v ∧ w'.ownsRow w.heap.size 2 1 v ((cutL 44 t).map looseN).length (ints ((cutL 44 t).map looseN)) ∧ Below w.heap.size w w' := by
  have hA := appendSeqI Bt t w ht hBt hE
  go_enter Tryz.func103, Tryz.ntmps103
  go_wp2_with (go_at_call 117; (with_reducible refine hA.mono ?_); clear hA; rintro e w' ⟨v, rfl, hrow, hb⟩)
  go_ret
  exact ⟨v, rfl, hrow, hb⟩

theorem eachReadKey_any (t : List UInt8) (w : World) :
    Calls Tryz.prog 104 #[.string (str t)] w fun e w' => e = .returned (.func (.func 118) #[] #[.pointer (some ⟨w.heap.size, 0, none⟩)]) ∧ w' = w.alloc (.cells #[.string (str t)] 9) := by
  have hmf : ∀ (fn : Fn) (first cap : Array Value) (w : World), (Instr.makeFunc fn first cap).run Tryz.prog w = .ok (.func fn first cap) w := fun _ _ _ _ => rfl
  go_enter Tryz.func104, Tryz.ntmps104
  go_wp2
  go_ret
  exact ⟨rfl, rfl⟩

end Go.Proofs.YtciefdphjkjikaaGreatDoor
