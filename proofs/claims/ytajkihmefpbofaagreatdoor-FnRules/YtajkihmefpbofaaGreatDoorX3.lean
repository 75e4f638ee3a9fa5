/- An iterator that itself ranges over an iterator: those keys of a rule that signed are told one by one, and counted. Those keys of a rule that signed, told one by one and counted: the program's way. The program's eachSigner tells those keys of a rule that signed. -/
import Derived.RangeFuncNested
import Derived.RangeFuncWrites
import Derived.Test.YtajkihmefpbofaaGreatDoorRu
import Derived.Test.YtajkihmefpbofaaGreatDoorHasSign
namespace Go.Proofs.YtajkihmefpbofaaGreatDoor
open Go.RowKit Go.Shelf Go.Maps Go.WideMaps
attribute [local go_sem] Oper.semAt_some

/-- All that lies from B on is as it was. -/
def SameFrom (B : Nat) (V V' : World) : Prop := ∀ k, B ≤ k → k < V.heap.size → V'.heap[k]? = V.heap[k]?

/-- What an iterator owes to one who ranges over it to its end: all of xs come, one by one; the round is asked to keep what lies below B, what the iterator itself has laid, and whatever is no cells. -/
def Tells {α : Type} (g : Nat) (lb : Array Value) (encs : α → Array Value) (B : Nat) (xs : List α) (w : World) : Prop :=
  ∀ (l : Nat) (J : List α → World → Prop) (W : World), Below B w W → OwnFrom W.heap.size J →
    (∀ pre x W1, J pre W1 → pre.length < 1048576 → YieldAt Fence.wide 0 Tryz.prog l (encs x) W1 fun e W' => e = .returned (.bool true) ∧ J (pre ++ [x]) W' ∧ Below B W1 W' ∧ KeepsOthers W1 W' ∧ SameFrom W.heap.size W1 W') → J [] W →
    Calls Tryz.prog g (#[.func (.yield l) #[] #[]] ++ lb) W fun e W' => (∃ v, e = .returned v) ∧ J xs W'

theorem round_any {n m l f : Nat} {tmps : Array Value} {assign body : Code} {w : World} {R : Ending → World → Prop} (h : RoundIn Fence.wide n Tryz.prog l f tmps assign body w R) : RoundIn Fence.wide m Tryz.prog l f tmps assign body w R :=
  ⟨trivial, fun c cs _ => h.2 c cs (fun d hd => by cases hd)⟩

theorem below_putObj {B l : Nat} {W : World} {o o' : Obj} (hB : B ≤ l) (hl : W.heap[l]? = some o) : Below B W (W.putObj l o') :=
  (Below.refl B W).grown (grownBy_putObj' W l o') (Nat.le_trans hB (Nat.le_of_lt (Array.getElem?_eq_some_iff.1 hl).1)) (fun k e => by cases e; exact hB)

/-- Who ranges to the end over an iterator that keeps its word. -/
theorem range_all {α : Type} {g : Operand} {ps : Array Tmp} {assign body : Code} {Q : Exit → Act → World → Prop} {a : Act} {w w0 : World} {B n : Nat} (h1 : 1 ≤ n) {gf : Nat} {lb : Array Value}
    (hg : a.eval g = .func (.func gf) #[] lb) (eg : ∀ args w, (callFunc gf args).run Tryz.prog w = .ok (.enter gf args) w) {encs : α → Array Value} {xs : List α} (hT : Tells gf lb encs B xs w0) (hb : Below B w0 w) (hB : B ≤ w.heap.size) (hps : ∀ x, (encs x).size = ps.size)
    (I : List α → World → Prop) (hI : OwnFrom w.heap.size I) (h0 : I [] w) (a₁ : α → Act)
    (hassign : ∀ (l : Nat) (x : α) (W : World) (K : Act → World → Prop), K (a₁ x) W →
      assign.wpIn (Fence.wide.inRound l) 1 Tryz.prog (Exit.then K (fun _ _ _ => False)) { tmps := (ps.zip (encs x)).foldl (fun t (p, v) => t.setIfInBounds p v) a.tmps, defers := [] } W)
    (hbody : ∀ (l : Nat) (pre : List α) (x : α) (W : World), I pre W → pre.length < 1048576 → body.wpIn (Fence.wide.inRound l) 1 Tryz.prog (fun e _ W' => e = .normal ∧ KeepsOthers W W' ∧ Below B W W' ∧ SameFrom w.heap.size W W' ∧ I (pre ++ [x]) W') (a₁ x) W)
    (hdone : ∀ (D : Nat) (W : World), w.heap.size ≤ D → I xs W → W.heap[D]? = some (.deferred (some [])) → Q .normal { a with defers := { target := .collected D, args := #[] } :: a.defers } W) :
    (Code.rangeFunc g ps assign body).wpIn Fence.wide n Tryz.prog Q a w := by
  refine wpIn_rangeFunc fun fn _ => ?_
  obtain ⟨rec, hrec⟩ : ∃ rec : LoopState → Loop, rec = fun st => { state := st, pending := none, fn, tmps := a.tmps, params := ps, assign, body, defers := w.heap.size } := ⟨_, rfl⟩
  obtain ⟨W1, hW1⟩ : ∃ W1, (w.alloc (.deferred (some []))).alloc (.loop (rec .ready)) = W1 := ⟨_, rfl⟩
  have hsz : W1.heap.size = w.heap.size + 2 := by rw [← hW1]; simp
  have hL1 : W1.heap[w.heap.size + 1]? = some (.loop (rec .ready)) := by
    rw [← hW1]; have := World.alloc_heap_new (w.alloc (.deferred (some []))) (.loop (rec .ready)); rwa [World.size_alloc] at this
  have hK1 : W1.heap[w.heap.size]? = some (.deferred (some [])) := by
    rw [← hW1]; exact (Below.heap_alloc _ _ _ (by simp)).trans (World.alloc_heap_new w _)
  have hI1 : I [] W1 := by rw [← hW1]; exact hI.alloc _ (hI.alloc _ h0)
  have hb1 : Below B w0 W1 := by
    rw [← hW1]; exact hb.trans (((Below.refl B w).alloc hB _).alloc (by simp; omega) _)
  refine ⟨w.heap.size + 1, [{ target := .collected w.heap.size, args := #[] }], W1, { target := .fn (.func gf) lb, args := #[.func (.yield (w.heap.size + 1)) #[] #[]] }, W1, gf,
    #[.func (.yield (w.heap.size + 1)) #[] #[]] ++ lb, W1, ?_, ?_, ?_, ?_, fun _ => h1, ?_⟩
  · rw [← hW1, hrec]; exact run_enterLoop_outer _ _ _ _ _
  · simp only [resolve, hg]
    simp [go_sem]
  · intro f' _; trivial
  · simp [invoke, go_sem, eg]
  refine (callsIn_wide.2 (hT (w.heap.size + 1) (fun pre W => I pre W ∧ W.heap[w.heap.size + 1]? = some (.loop (rec .ready)) ∧ W.heap[w.heap.size]? = some (.deferred (some []))) W1 hb1 ?_ ?_ ⟨hI1, hL1, hK1⟩)).mono ?_
  · rintro s A C row ⟨hi, hl, hk⟩ hgr hrow
    have hne : ∀ j, j < w.heap.size + 2 → j < A.heap.size → C.heap[j]? = A.heap[j]? := fun j hj hjA => hgr.block j hjA (fun e => by have := (hrow j e.symm).1; omega)
    refine ⟨hI s A C row hi hgr (fun r e => ⟨by have := (hrow r e).1; omega, (hrow r e).2⟩), (hne _ (by omega) (lt_of_block hl)).trans hl, (hne _ (by omega) (lt_of_block hk)).trans hk⟩
  · rintro pre x W ⟨hi, hl, hk⟩ hlen
    have hlt := lt_of_block hl
    have hy := run_yield (P := Tryz.prog) (args := encs x) hl (by rw [hrec]; exact hps x)
    rw [hrec] at hy
    refine ⟨fn, _, assign, body, hy, round_any (n := 1) (roundIn_of_wpIn trivial (hassign _ x W _ ⟨_, run_beginRound hl (by rw [hrec]), ?_⟩))⟩
    obtain ⟨Wb, hWb⟩ : ∃ Wb, W.putObj (w.heap.size + 1) (.loop (rec .busy)) = Wb := ⟨_, rfl⟩
    have eb : W.putObj (w.heap.size + 1) (.loop { rec .ready with state := .busy }) = Wb := by rw [← hWb, hrec]
    rw [eb]
    have hl2 : Wb.heap[w.heap.size + 1]? = some (.loop (rec .busy)) := by rw [← hWb]; exact World.putObj_heap_same hlt
    have hbb : Below B W Wb := by rw [← hWb]; exact below_putObj (by omega) hl
    have hib : I pre Wb := by rw [← hWb]; exact hI.putObj _ hi (by omega) hl rfl
    refine wpIn_mono (hbody _ pre x _ hib hlen) ?_
    rintro e a3 W3 ⟨rfl, hk3, hb3, hs3, hi3⟩
    have hl3 := hk3.same _ _ hl2 rfl
    have hr := run_endRound (P := Tryz.prog) none hl3
    have ee : W3.putObj (w.heap.size + 1) (.loop { rec .busy with state := if (none : Option Code).isNone then .ready else .done, pending := none }) = W3.putObj (w.heap.size + 1) (.loop (rec .ready)) := by rw [hrec]; rfl
    rw [ee] at hr
    refine ⟨_, _, hr, rfl, ⟨hI.putObj _ hi3 (by omega) hl3 rfl, World.putObj_heap_same (lt_of_block hl3), ?_⟩, (hbb.trans hb3).trans (below_putObj (by omega) hl3), ⟨?_, ?_⟩, ?_⟩
    · have h2 : Wb.heap[w.heap.size]? = some (.deferred (some [])) := by rw [← hWb]; exact (World.putObj_heap_other (by omega)).trans hk
      exact (World.putObj_heap_other (by omega)).trans (hk3.same _ _ h2 rfl)
    · have := (hbb.trans hb3).size
      exact Nat.le_trans this (below_putObj (B := B) (by omega) hl3).size
    · intro k o hk' ho
      by_cases e : k = w.heap.size + 1
      · subst e
        rw [hl] at hk'
        cases hk'
        exact World.putObj_heap_same (lt_of_block hl3)
      · have h2 : Wb.heap[k]? = some o := by rw [← hWb]; exact (World.putObj_heap_other (by omega)).trans hk'
        exact (World.putObj_heap_other (by omega)).trans (hk3.same _ _ h2 ho)
    · intro k hk' hkl
      have h2 : Wb.heap[k]? = W.heap[k]? := by rw [← hWb]; exact World.putObj_heap_other (by omega)
      exact (World.putObj_heap_other (by omega)).trans ((hs3 k (by omega) (Nat.lt_of_lt_of_le hkl hbb.size)).trans h2)
  · rintro e W2 ⟨⟨v, rfl⟩, hi, hl, hk⟩
    have hend := run_endLoop (P := Tryz.prog) hl (by rw [hrec]; simp)
    have hp : (rec .ready).pending = none := by rw [hrec]
    rw [hp] at hend
    exact ⟨none, _, hend, hdone w.heap.size _ (Nat.le_refl _) (hI.putObj _ hi (by omega) hl rfl) ((World.putObj_heap_other (by omega)).trans hk)⟩

end Go.Proofs.YtajkihmefpbofaaGreatDoor

namespace Go.Proofs.YtajkihmefpbofaaGreatDoor
open Go.RowKit Go.Shelf Go.Maps Go.WideMaps
attribute [local go_sem] Oper.semAt_some

set_option maxRecDepth 100000 in
set_option maxHeartbeats 2000000 in
theorem countKeys_any (g : Nat) (lb : Array Value) (xs : List Int) (w : World) (hT : Tells g lb (fun x : Int => #[Value.int .i64 x]) w.heap.size xs w) (eg : ∀ args w, (callFunc g args).run Tryz.prog w = .ok (.enter g args) w) :
    Calls Tryz.prog 53 #[.func (.func g) #[] lb] w fun e w' => e = .returned (.int .i64 (xs.length : Nat)) ∧ Below w.heap.size w w' := by
  refine (callsIn_wide (n := 3)).1 ?_
  refine callsIn_of_wp_marks Tryz.func53 rfl trivial ?_ rfl
  simp only [Tryz.ntmps53, List.size_toArray, List.length_cons, List.length_nil, Nat.reduceAdd, Nat.reduceSub, Array.replicate_succ, Array.replicate_zero, List.push_toArray, List.append_toArray, List.nil_append, List.cons_append]
  gi_wp2
  have c0 := new1 w (.int .i64 0) 2
  have hB0 : Below w.heap.size w (w.alloc (.cells #[.int .i64 0] 2)) := below_box _
  refine range_all (by omega) (gf := g) (lb := lb) rfl eg hT hB0 (by simp) (fun _ => rfl)
    (fun pre W => (W.cell? ⟨w.heap.size, 0, none⟩ = some (.int .i64 (pre.length : Nat)) ∧ W.frozen? ⟨w.heap.size, 0, none⟩ = false) ∧ Below w.heap.size w W)
    (OwnFrom.and (Own.from (fun s A B row hs hg hr => ⟨cell_kept hs.1 hg hr, (frozen_kept hs.1 hg hr).trans hs.2⟩) _) (ownFrom_below (Nat.le_refl _) (by simp)))
    ⟨⟨c0.1, c0.2⟩, hB0⟩
    (fun x => { tmps := #[.func (.func g) #[] lb, undef, .int .i64 0, .pointer (some ⟨w.heap.size, 0, none⟩), .func (.func g) #[] lb, .int .i64 x, undef, undef, undef], defers := [] }) ?assign ?body ?done
  case assign =>
    intro l x W K hK
    gi_wp2
    simpa using hK
  case body =>
    rintro l pre x W ⟨⟨hcr, hfr⟩, hBB⟩ hlen
    obtain ⟨c, hc⟩ : ∃ c, c = pre.length := ⟨_, rfl⟩
    rw [← hc] at hcr hlen
    have HC : Hid (c = pre.length) := hc
    clear hc
    gi_wp2
    exact ⟨KeepsOthers.setCell _ _ _, (Below.refl _ _).setCell (p := ⟨w.heap.size, 0, none⟩) (Nat.le_refl _) _, fun k hk _ => Below.heap_setCell _ ⟨w.heap.size, 0, none⟩ _ k (by show k ≠ w.heap.size; omega), by rw [HC.out], hBB.setCell (p := ⟨w.heap.size, 0, none⟩) (Nat.le_refl _) _⟩
  case done =>
    rintro D W hD ⟨⟨hcr, hfr⟩, hBB⟩ hK
    gi_wp2
    refine ⟨by simp, .inl ⟨_, _, rfl, run_takeDeferred hK, ?_⟩⟩
    refine ⟨.int .i64 (xs.length : Nat), ?_, rfl, hBB.trans (belowK_b (w := w) (Nat.le_refl _) W D _ _ (by simp at hD; omega) hK rfl rfl)⟩
    simp [results, Tryz.results53, go_sem]

end Go.Proofs.YtajkihmefpbofaaGreatDoor

namespace Go.Proofs.YtajkihmefpbofaaGreatDoor
open Go.RowKit Go.Shelf Go.Maps Go.WideMaps
attribute [local go_sem] Oper.semAt_some

theorem cell_lt {V : World} {a : Addr} {v : Value} (h : V.cell? a = some v) : a.block < V.heap.size := by
  unfold World.cell? at h
  cases hx : V.heap[a.block]? with
  | none => simp [hx] at h
  | some o => exact (Array.getElem?_eq_some_iff.1 hx).1

abbrev Wf : Type := { z : Int // (Lit.int .i64 z).wf = true }

set_option maxRecDepth 100000 in
set_option maxHeartbeats 2000000 in
theorem signers_tell (Br Bb Bi pg base n cap : Nat) (a : Option Addr) (zs : List Wf) (x y id : Int) (gs : List (Int × Int)) (pp : Option Addr) (w0 : World) (hn : n ≤ 1048576) (hI : IAt w0 a n (zs.map Subtype.val)) (hwi : (Lit.int .i64 id).wf = true)
    (hR : w0.heap[Br]? = some (.cells #[.slice a n cap, .int .i64 x, .int .i64 y] 30 (0, 0))) (hb : w0.heap[Bb]? = some (.cells #[.pointer pp, .pointer (some ⟨pg, 0, none⟩)] 55 (0, 0))) (hi : w0.heap[Bi]? = some (.cells #[.int .i64 id] 2 (0, 0))) (hT : TwG w0 base pg gs) :
    Tells 78 #[.pointer (some ⟨Br, 0, none⟩), .pointer (some ⟨Bb, 0, none⟩), .pointer (some ⟨Bi, 0, none⟩)] (fun x : Int => #[Value.int .i64 x]) w0.heap.size ((zs.map Subtype.val).filter fun k => memB gs (k, id)) w0 := by
  intro lp J W hbW hJ hY h0
  have HY := show Hid (∀ pre x W1, J pre W1 → pre.length < 1048576 → YieldAt Fence.wide 0 Tryz.prog lp #[Value.int .i64 x] W1 fun e W' => e = .returned (.bool true) ∧ J (pre ++ [x]) W' ∧ Below w0.heap.size W1 W' ∧ KeepsOthers W1 W' ∧ SameFrom W.heap.size W1 W') from hY
  have HJ : Hid (OwnFrom W.heap.size J) := hJ
  have HT : Hid (TwG w0 base pg gs) := hT
  have HBK : Hid (w0.heap[Bb]? = some (.cells #[.pointer pp, .pointer (some ⟨pg, 0, none⟩)] 55 (0, 0))) := hb
  have HID : Hid (w0.heap[Bi]? = some (.cells #[.int .i64 id] 2 (0, 0))) := hi
  have hR2 : W.heap[Br]? = some (.cells #[.slice a n cap, .int .i64 x, .int .i64 y] 30 (0, 0)) := (hbW.block Br (lt_of_block hR)).trans hR
  have hlR := lt_of_block hR2
  have hR3 : (W.alloc (.cells #[.func (.yield lp) #[] #[]] 64)).heap[Br]? = some (.cells #[.slice a n cap, .int .i64 x, .int .i64 y] 30 (0, 0)) := (Below.heap_alloc _ _ _ hlR).trans hR2
  obtain ⟨r0, r1, r2⟩ := cells3 hR3
  clear hY hT hb hi hJ
  refine (callsIn_wide (n := 3)).1 ?_
  show CallsIn Fence.wide 3 Tryz.prog 78 #[.func (.yield lp) #[] #[], .pointer (some ⟨Br, 0, none⟩), .pointer (some ⟨Bb, 0, none⟩), .pointer (some ⟨Bi, 0, none⟩)] W _
  refine callsIn_of_wp_marks Tryz.func78 rfl trivial ?_ rfl
  simp only [Tryz.ntmps78, List.size_toArray, List.length_cons, List.length_nil, Nat.reduceAdd, Nat.reduceSub, Array.replicate_succ, Array.replicate_zero, List.push_toArray, List.append_toArray, List.nil_append, List.cons_append]
  gi_wp2_with (first | (refine ⟨trivial, ?_⟩; gi_at_call 36; refine (callsIn_wide.2 (eachKey_any _ _ _ _ _ _)).mono ?_; rintro e w' ⟨rfl, hw⟩; subst hw))
  have hsz : w0.heap.size ≤ W.heap.size := hbW.size
  have hbx : Below W.heap.size W ((W.alloc (.cells #[.func (.yield lp) #[] #[]] 64)).alloc (.cells #[.slice a n cap, .int .i64 x, .int .i64 y] 30)) := below_box2 _ _
  have hb0 : Below w0.heap.size w0 ((W.alloc (.cells #[.func (.yield lp) #[] #[]] 64)).alloc (.cells #[.slice a n cap, .int .i64 x, .int .i64 y] 30)) := hbW.trans (hbx.mono hsz)
  have hcY : ((W.alloc (.cells #[.func (.yield lp) #[] #[]] 64)).alloc (.cells #[.slice a n cap, .int .i64 x, .int .i64 y] 30)).cell? ⟨W.heap.size, 0, none⟩ = some (.func (.yield lp) #[] #[]) := by
    unfold World.cell?; rw [block_at2]; rfl
  have hcR : ((W.alloc (.cells #[.func (.yield lp) #[] #[]] 64)).alloc (.cells #[.slice a n cap, .int .i64 x, .int .i64 y] 30)).cell? ⟨W.heap.size + 1, 0, none⟩ = some (.slice a n cap) := by
    unfold World.cell?; rw [heap_alloc_at _ _ _ (by simp)]; rfl
  have hJ2 : J [] ((W.alloc (.cells #[.func (.yield lp) #[] #[]] 64)).alloc (.cells #[.slice a n cap, .int .i64 x, .int .i64 y] 30)) := HJ.out.alloc _ (HJ.out.alloc _ h0)
  clear r0 r1 r2 hR3 hR2 hR hlR hbx h0
  refine wpIn_rangeFunc_ownG rfl (by omega) (gf := 68) (lb := #[.pointer (some ⟨W.heap.size + 1, 0, none⟩)]) rfl trivial (enters_of Tryz.func68 (by kernel_rfl) rfl)
    (each_stops (fun z : Wf => z.1) Fence.wide (3 - 1) trivial rfl (by omega) (W.heap.size + 1) n cap a zs w0 _ hn hI hb0 (by simp) hcR) belowK_t (belowK_b (by simp; omega)) (Below.refl _ _) (fun _ => rfl)
    (fun pre V => (J ((pre.map Subtype.val).filter fun k => memB gs (k, id)) V ∧ V.cell? ⟨W.heap.size, 0, none⟩ = some (.func (.yield lp) #[] #[])) ∧ Below w0.heap.size w0 V)
    (fun _ _ _ => False)
    (OwnFrom.and (OwnFrom.and (fun s A B row hs hg hr => HJ.out _ A B row hs hg (fun r e => ⟨by have := (hr r e).1; simp at this; omega, (hr r e).2⟩)) (Own.from (fun s A B row hs hg hr => cell_kept hs hg hr) _)) (ownFrom_below (Nat.le_refl _) (by simp; omega)))
    (fun c => fun _ _ _ _ hs _ _ => hs)
    ⟨⟨hJ2, hcY⟩, hb0⟩
    (fun z => { tmps := #[.func (.yield lp) #[] #[], .pointer (some ⟨Br, 0, none⟩), .pointer (some ⟨Bb, 0, none⟩), .pointer (some ⟨Bi, 0, none⟩), .pointer (some ⟨W.heap.size, 0, none⟩), .int .i64 z.1, .agg #[.slice a n cap, .int .i64 x, .int .i64 y], .func (.func 68) #[] #[.pointer (some ⟨W.heap.size + 1, 0, none⟩)], .int .i64 z.1, undef, undef, undef, undef, undef, undef, undef, undef, undef, undef], defers := [] }) ?assign ?body ?done ?stop
  case assign =>
    intro l z V K hK
    gi_wp2
    exact hK
  case body =>
    rintro l pre ⟨z, hz⟩ V ⟨⟨hj, hyc⟩, hBB⟩ hlen
    have hB2 := (hBB.block Bb (lt_of_block HBK.out)).trans HBK.out
    have hI2 := (hBB.block Bi (lt_of_block HID.out)).trans HID.out
    obtain ⟨k0, k1⟩ := cells2 hB2
    have i0 : V.cell? ⟨Bi, 0, none⟩ = some (.int .i64 id) := by unfold World.cell?; rw [hI2]; rfl
    have hnum := bookHas_any pp pg base gs z id V hz hwi (HT.out.below hBB)
    obtain ⟨mb, hmb⟩ : ∃ c, c = memB gs (z, id) := ⟨_, rfl⟩
    rw [← hmb] at hnum
    have HJV : Hid (J ((pre.map Subtype.val).filter fun k => memB gs (k, id)) V) := hj
    have HL : Hid (((pre.map Subtype.val).filter fun k => memB gs (k, id)).length < 1048576) := by
      have h1 := List.length_filter_le (fun k => memB gs (k, id)) (pre.map Subtype.val)
      rw [List.length_map] at h1
      exact Nat.lt_of_le_of_lt h1 (by omega)
    have HZ : Hid (((pre ++ [(⟨z, hz⟩ : Wf)]).map Subtype.val).filter (fun k => memB gs (k, id)) = ((pre.map Subtype.val).filter fun k => memB gs (k, id)) ++ if mb = true then [z] else []) := by
      show _ = _
      rw [List.map_append, List.filter_append]
      congr 1
      simp only [List.map_cons, List.map_nil, List.filter_cons, List.filter_nil, ← hmb]
    clear hmb hj hB2 hI2
    cases mb
    · gi_wp2_with (first | (refine ⟨trivial, ?_⟩; gi_at_call 79; refine (CallsIn.inRound l (callsIn_wide.2 hnum)).mono ?_; rintro e V2 ⟨rfl, hb2⟩))
      refine ⟨fun f e => (by cases e), ?_⟩
      gi_wp2
      have hg2 := grown_of_below hb2
      have hy2 := (hb2.cell (p := ⟨W.heap.size, 0, none⟩) (cell_lt hyc)).trans hyc
      have hz2 : ((pre ++ [(⟨z, hz⟩ : Wf)]).map Subtype.val).filter (fun k => memB gs (k, id)) = ((pre.map Subtype.val).filter fun k => memB gs (k, id)) := by rw [← List.append_nil ((pre.map Subtype.val).filter fun k => memB gs (k, id))]; exact HZ.out
      refine ⟨KeepsFrom.of_grownBy hg2 (fun j e => by cases e), hb2.mono hBB.size, ⟨?_, hy2⟩, hBB.trans (hb2.mono hBB.size)⟩
      rw [hz2]
      exact HJ.out _ V V2 none HJV.out hg2 (fun r e => by cases e)
    · gi_wp2_with (first | (refine ⟨trivial, ?_⟩; gi_at_call 79; refine (CallsIn.inRound l (callsIn_wide.2 hnum)).mono ?_; rintro e V2 ⟨rfl, hb2⟩; have hg2 := grown_of_below hb2; have hy2 := (hb2.cell (p := ⟨W.heap.size, 0, none⟩) (cell_lt hyc)).trans hyc; obtain ⟨fn, tmps, assign, body, hy, hR⟩ := HY.out _ z V2 (HJ.out _ V V2 none HJV.out hg2 (fun r e => by cases e)) HL.out))
      have hR' : RoundIn (Fence.wide.inRound l) 0 Tryz.prog lp fn tmps assign body V2 _ := hR
      refine hR'.mono ?_
      rintro e V3 ⟨rfl, hj3, hb3, hk3, hs3⟩
      gi_wp2
      have hz2 : ((pre ++ [(⟨z, hz⟩ : Wf)]).map Subtype.val).filter (fun k => memB gs (k, id)) = ((pre.map Subtype.val).filter fun k => memB gs (k, id)) ++ [z] := HZ.out
      have hy3 : V3.cell? ⟨W.heap.size, 0, none⟩ = some (.func (.yield lp) #[] #[]) := by unfold World.cell? at hy2 ⊢; rw [hs3 W.heap.size (Nat.le_refl _) (cell_lt (a := ⟨W.heap.size, 0, none⟩) hy2)]; exact hy2
      refine ⟨(KeepsFrom.of_grownBy hg2 (fun j e => by cases e)).trans (hk3.from _), (hb2.mono hBB.size).trans hb3, ⟨?_, hy3⟩, (hBB.trans (hb2.mono hBB.size)).trans hb3⟩
      rw [hz2]
      exact hj3
  case done =>
    rintro D ys V hD rfl ⟨⟨hj, _⟩, hBB⟩ hK
    gi_wp2
    refine ⟨by simp, .inl ⟨_, _, rfl, run_takeDeferred hK, ?_⟩⟩
    refine ⟨_, results_none rfl _ _ _, ⟨_, rfl⟩, ?_⟩
    exact HJ.out _ V _ (some D) hj (grownBy_putObj' V D (.deferred none)) (fun r e => by cases e; exact ⟨by simp at hD; omega, _, hK, rfl⟩)
  case stop =>
    rintro D c pre V hD hpre h hK
    exact h.elim

end Go.Proofs.YtajkihmefpbofaaGreatDoor
