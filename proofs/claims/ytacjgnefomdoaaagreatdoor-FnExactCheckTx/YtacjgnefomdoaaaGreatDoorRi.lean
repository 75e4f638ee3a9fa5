/- An iterator that itself ranges over an iterator: those keys of a rule that signed are told one by one, and counted. Those keys of a rule that signed, told one by one and counted: the program's way. What HasSign answers: the specification's and the program's. The program's eachSigner tells those keys of a rule that signed. Is a rule met: the specification's way and the program's. Is a rule met: the program's way. IsRipe: the program's, the specification's, and the law's walk. -/
import Derived.RangeFuncNested
import Derived.RangeFuncWrites
import Derived.Test.YtacjgnefomdoaaaGreatDoorRu
import Derived.Test.YtacjgnefomdoaaaGreatDoorSignsOf
import Derived.Test.YtacjgnefomdoaaaGreatDoorCm
namespace Go.Proofs.YtacjgnefomdoaaaGreatDoor
open Go.RowKit Go.Shelf Go.Maps Go.WideMaps
attribute [local go_sem] Oper.semAt_some

/-- All that lies from B on is as it was. -/
def SameFrom (B : Nat) (V V' : World) : Prop := ∀ k, B ≤ k → k < V.heap.size → V'.heap[k]? = V.heap[k]?

/-- What an iterator owes to one who ranges over it to its end: all of xs come, one by one; the round is asked to keep what lies below B, what the iterator itself has laid, and whatever is no cells. -/
def Tells {α : Type} (g : Nat) (lb : Array Value) (encs : α → Array Value) (B : Nat) (xs : List α) (w : World) : Prop :=
  ∀ (l : Nat) (J : List α → World → Prop) (W : World), Below B w W → OwnFrom W.heap.size J →
    (∀ pre x W1, J pre W1 → pre.length < 1048576 → YieldAt Fence.wide 0 Tryz.prog l (encs x) W1 fun e W' => e = .returned (.bool true) ∧ J (pre ++ [x]) W' ∧ Below B W1 W' ∧ KeepsOthers W1 W' ∧ SameFrom W.heap.size W1 W') → J [] W →
    Calls Tryz.prog g (#[.func (.yield l) #[] #[]] ++ lb) W fun e W' => (∃ v, e = .returned v) ∧ J xs W'

theorem round_any {n m l f : Nat} {tmps : Array Value} {assign body : Code} {w : World} {R : Ending → World → Prop} (h : RoundIn Fence.wide n Tryz.prog l f tmps assign body w R) : RoundIn Fence.wide m Tryz.prog l f tmps assign body w R :=
  ⟨trivial, fun c cs _ => h.2 c cs (fun d hd => by cases hd)⟩

theorem below_putObj {B l : Nat} {W : World} {o o' : Obj} (hB : B ≤ l) (hl : W.heap[l]? = some o) : Below B W (W.putObj l o') :=
  (Below.refl B W).grown (grownBy_putObj' W l o') (Nat.le_trans hB (Nat.le_of_lt (Array.getElem?_eq_some_iff.1 hl).1)) (fun k e => by cases e; exact hB)

/-- Who ranges to the end over an iterator that keeps its word. -/
theorem range_all {α : Type} {g : Operand} {ps : Array Tmp} {assign body : Code} {Q : Exit → Act → World → Prop} {a : Act} {w w0 : World} {B n : Nat} (h1 : 1 ≤ n) {gf : Nat} {lb : Array Value}
    (hg : a.eval g = .func (.func gf) #[] lb) (eg : ∀ args w, (callFunc gf args).run Tryz.prog w = .ok (.enter gf args) w) {encs : α → Array Value} {xs : List α} (hT : Tells gf lb encs B xs w0) (hb : Below B w0 w) (hB : B ≤ w.heap.size) (hps : ∀ x, (encs x).size = ps.size)
    (I : List α → World → Prop) (hI : OwnFrom w.heap.size I) (h0 : I [] w) (a₁ : α → Act)
    (hassign : ∀ (l : Nat) (x : α) (W : World) (K : Act → World → Prop), K (a₁ x) W →
      assign.wpIn (Fence.wide.inRound l) 1 Tryz.prog (Exit.then K (fun _ _ _ => False)) { tmps := (ps.zip (encs x)).foldl (fun t (p, v) => t.setIfInBounds p v) a.tmps, defers := [] } W)
    (hbody : ∀ (l : Nat) (pre : List α) (x : α) (W : World), I pre W → pre.length < 1048576 → body.wpIn (Fence.wide.inRound l) 1 Tryz.prog (fun e _ W' => e = .normal ∧ KeepsOthers W W' ∧ Below B W W' ∧ SameFrom w.heap.size W W' ∧ I (pre ++ [x]) W') (a₁ x) W)
    (hdone : ∀ (D : Nat) (W : World), w.heap.size ≤ D → I xs W → W.heap[D]? = some (.deferred (some [])) → Q .normal { a with defers := { target := .collected D, args := #[] } :: a.defers } W) :
    (Code.rangeFunc g ps assign body).wpIn Fence.wide n Tryz.prog Q a w := by
  refine wpIn_rangeFunc fun fn _ => ?_
  obtain ⟨rec, hrec⟩ : ∃ rec : LoopState → Loop, rec = fun st => { state := st, pending := none, fn, tmps := a.tmps, params := ps, assign, body, defers := w.heap.size } := ⟨_, rfl⟩
  obtain ⟨W1, hW1⟩ : ∃ W1, (w.alloc (.deferred (some []))).alloc (.loop (rec .ready)) = W1 := ⟨_, rfl⟩
  have hsz : W1.heap.size = w.heap.size + 2 := by rw [← hW1]; simp
  have hL1 : W1.heap[w.heap.size + 1]? = some (.loop (rec .ready)) := by
    rw [← hW1]; have := World.alloc_heap_new (w.alloc (.deferred (some []))) (.loop (rec .ready)); rwa [World.size_alloc] at this
  have hK1 : W1.heap[w.heap.size]? = some (.deferred (some [])) := by
    rw [← hW1]; exact (Below.heap_alloc _ _ _ (by simp)).trans (World.alloc_heap_new w _)
  have hI1 : I [] W1 := by rw [← hW1]; exact hI.alloc _ (hI.alloc _ h0)
  have hb1 : Below B w0 W1 := by
    rw [← hW1]; exact hb.trans (((Below.refl B w).alloc hB _).alloc (by simp; omega) _)
  refine ⟨w.heap.size + 1, [{ target := .collected w.heap.size, args := #[] }], W1, { target := .fn (.func gf) lb, args := #[.func (.yield (w.heap.size + 1)) #[] #[]] }, W1, gf,
    #[.func (.yield (w.heap.size + 1)) #[] #[]] ++ lb, W1, ?_, ?_, ?_, ?_, fun _ => h1, ?_⟩
  · rw [← hW1, hrec]; exact run_enterLoop_outer _ _ _ _ _
  · simp only [resolve, hg]
    simp [go_sem]
  · intro f' _; trivial
  · simp [invoke, go_sem, eg]
  refine (callsIn_wide.2 (hT (w.heap.size + 1) (fun pre W => I pre W ∧ W.heap[w.heap.size + 1]? = some (.loop (rec .ready)) ∧ W.heap[w.heap.size]? = some (.deferred (some []))) W1 hb1 ?_ ?_ ⟨hI1, hL1, hK1⟩)).mono ?_
  · rintro s A C row ⟨hi, hl, hk⟩ hgr hrow
    have hne : ∀ j, j < w.heap.size + 2 → j < A.heap.size → C.heap[j]? = A.heap[j]? := fun j hj hjA => hgr.block j hjA (fun e => by have := (hrow j e.symm).1; omega)
    refine ⟨hI s A C row hi hgr (fun r e => ⟨by have := (hrow r e).1; omega, (hrow r e).2⟩), (hne _ (by omega) (lt_of_block hl)).trans hl, (hne _ (by omega) (lt_of_block hk)).trans hk⟩
  · rintro pre x W ⟨hi, hl, hk⟩ hlen
    have hlt := lt_of_block hl
    have hy := run_yield (P := Tryz.prog) (args := encs x) hl (by rw [hrec]; exact hps x)
    rw [hrec] at hy
    refine ⟨fn, _, assign, body, hy, round_any (n := 1) (roundIn_of_wpIn trivial (hassign _ x W _ ⟨_, run_beginRound hl (by rw [hrec]), ?_⟩))⟩
    obtain ⟨Wb, hWb⟩ : ∃ Wb, W.putObj (w.heap.size + 1) (.loop (rec .busy)) = Wb := ⟨_, rfl⟩
    have eb : W.putObj (w.heap.size + 1) (.loop { rec .ready with state := .busy }) = Wb := by rw [← hWb, hrec]
    rw [eb]
    have hl2 : Wb.heap[w.heap.size + 1]? = some (.loop (rec .busy)) := by rw [← hWb]; exact World.putObj_heap_same hlt
    have hbb : Below B W Wb := by rw [← hWb]; exact below_putObj (by omega) hl
    have hib : I pre Wb := by rw [← hWb]; exact hI.putObj _ hi (by omega) hl rfl
    refine wpIn_mono (hbody _ pre x _ hib hlen) ?_
    rintro e a3 W3 ⟨rfl, hk3, hb3, hs3, hi3⟩
    have hl3 := hk3.same _ _ hl2 rfl
    have hr := run_endRound (P := Tryz.prog) none hl3
    have ee : W3.putObj (w.heap.size + 1) (.loop { rec .busy with state := if (none : Option Code).isNone then .ready else .done, pending := none }) = W3.putObj (w.heap.size + 1) (.loop (rec .ready)) := by rw [hrec]; rfl
    rw [ee] at hr
    refine ⟨_, _, hr, rfl, ⟨hI.putObj _ hi3 (by omega) hl3 rfl, World.putObj_heap_same (lt_of_block hl3), ?_⟩, (hbb.trans hb3).trans (below_putObj (by omega) hl3), ⟨?_, ?_⟩, ?_⟩
    · have h2 : Wb.heap[w.heap.size]? = some (.deferred (some [])) := by rw [← hWb]; exact (World.putObj_heap_other (by omega)).trans hk
      exact (World.putObj_heap_other (by omega)).trans (hk3.same _ _ h2 rfl)
    · have := (hbb.trans hb3).size
      exact Nat.le_trans this (below_putObj (B := B) (by omega) hl3).size
    · intro k o hk' ho
      by_cases e : k = w.heap.size + 1
      · subst e
        rw [hl] at hk'
        cases hk'
        exact World.putObj_heap_same (lt_of_block hl3)
      · have h2 : Wb.heap[k]? = some o := by rw [← hWb]; exact (World.putObj_heap_other (by omega)).trans hk'
        exact (World.putObj_heap_other (by omega)).trans (hk3.same _ _ h2 ho)
    · intro k hk' hkl
      have h2 : Wb.heap[k]? = W.heap[k]? := by rw [← hWb]; exact World.putObj_heap_other (by omega)
      exact (World.putObj_heap_other (by omega)).trans ((hs3 k (by omega) (Nat.lt_of_lt_of_le hkl hbb.size)).trans h2)
  · rintro e W2 ⟨⟨v, rfl⟩, hi, hl, hk⟩
    have hend := run_endLoop (P := Tryz.prog) hl (by rw [hrec]; simp)
    have hp : (rec .ready).pending = none := by rw [hrec]
    rw [hp] at hend
    exact ⟨none, _, hend, hdone w.heap.size _ (Nat.le_refl _) (hI.putObj _ hi (by omega) hl rfl) ((World.putObj_heap_other (by omega)).trans hk)⟩

end Go.Proofs.YtacjgnefomdoaaaGreatDoor

namespace Go.Proofs.YtacjgnefomdoaaaGreatDoor
open Go.RowKit Go.Shelf Go.Maps Go.WideMaps
attribute [local go_sem] Oper.semAt_some

set_option maxRecDepth 100000 in
set_option maxHeartbeats 2000000 in
theorem countKeys_any (g : Nat) (lb : Array Value) (xs : List Int) (w : World) (hT : Tells g lb (fun x : Int => #[Value.int .i64 x]) w.heap.size xs w) (eg : ∀ args w, (callFunc g args).run Tryz.prog w = .ok (.enter g args) w) :
    Calls Tryz.prog 137 #[.func (.func g) #[] lb] w fun e w' => e = .returned (.int .i64 (xs.length : Nat)) ∧ Below w.heap.size w w' := by
  refine (callsIn_wide (n := 3)).1 ?_
  refine callsIn_of_wp_marks Tryz.func137 rfl trivial ?_ rfl
  simp only [Tryz.ntmps137, List.size_toArray, List.length_cons, List.length_nil, Nat.reduceAdd, Nat.reduceSub, Array.replicate_succ, Array.replicate_zero, List.push_toArray, List.append_toArray, List.nil_append, List.cons_append]
  gi_wp2
  have c0 := new1 w (.int .i64 0) 2
  have hB0 : Below w.heap.size w (w.alloc (.cells #[.int .i64 0] 2)) := below_box _
  refine range_all (by omega) (gf := g) (lb := lb) rfl eg hT hB0 (by simp) (fun _ => rfl)
    (fun pre W => (W.cell? ⟨w.heap.size, 0, none⟩ = some (.int .i64 (pre.length : Nat)) ∧ W.frozen? ⟨w.heap.size, 0, none⟩ = false) ∧ Below w.heap.size w W)
    (OwnFrom.and (Own.from (fun s A B row hs hg hr => ⟨cell_kept hs.1 hg hr, (frozen_kept hs.1 hg hr).trans hs.2⟩) _) (ownFrom_below (Nat.le_refl _) (by simp)))
    ⟨⟨c0.1, c0.2⟩, hB0⟩
    (fun x => { tmps := #[.func (.func g) #[] lb, undef, .int .i64 0, .pointer (some ⟨w.heap.size, 0, none⟩), .func (.func g) #[] lb, .int .i64 x, undef, undef, undef], defers := [] }) ?assign ?body ?done
  case assign =>
    intro l x W K hK
    gi_wp2
    simpa using hK
  case body =>
    rintro l pre x W ⟨⟨hcr, hfr⟩, hBB⟩ hlen
    obtain ⟨c, hc⟩ : ∃ c, c = pre.length := ⟨_, rfl⟩
    rw [← hc] at hcr hlen
    have HC : Hid (c = pre.length) := hc
    clear hc
    gi_wp2
    exact ⟨KeepsOthers.setCell _ _ _, (Below.refl _ _).setCell (p := ⟨w.heap.size, 0, none⟩) (Nat.le_refl _) _, fun k hk _ => Below.heap_setCell _ ⟨w.heap.size, 0, none⟩ _ k (by show k ≠ w.heap.size; omega), by rw [HC.out], hBB.setCell (p := ⟨w.heap.size, 0, none⟩) (Nat.le_refl _) _⟩
  case done =>
    rintro D W hD ⟨⟨hcr, hfr⟩, hBB⟩ hK
    gi_wp2
    refine ⟨by simp, .inl ⟨_, _, rfl, run_takeDeferred hK, ?_⟩⟩
    refine ⟨.int .i64 (xs.length : Nat), ?_, rfl, hBB.trans (belowK_b (w := w) (Nat.le_refl _) W D _ _ (by simp at hD; omega) hK rfl rfl)⟩
    simp [results, Tryz.results137, go_sem]

end Go.Proofs.YtacjgnefomdoaaaGreatDoor

namespace Go.Proofs.YtacjgnefomdoaaaGreatDoor
open Go.RowKit Go.Maps Go.WideMaps

theorem l1Has_any (L m gc : Nat) (ga : Option Addr) (gs : List (Int × Int)) (a b : Int) (w : World) (hm : m ≤ maxLen) (hG : w.cell? ⟨L, 1, none⟩ = some (.slice ga m gc)) (hg : GAt w ga m gs) :
    Calls Tryz.prog 54 #[.pointer (some ⟨L, 0, none⟩), .int .i64 a, .int .i64 b] w fun e w' => e = .returned (.bool (memB gs (a, b))) ∧ Below w.heap.size w w' := by
  have hsg := l1Signed_any ga m gc gs a b w hm hg
  clear hg
  go_enter Tryz.func54, Tryz.ntmps54
  go_wp2_with (go_at_call 44; refine hsg.mono ?_; rintro e w' ⟨rfl, hb⟩)
  go_ret
  exact ⟨rfl, hb⟩

set_option maxHeartbeats 1000000 in
theorem bookHas_any (pp : Option Addr) (q top : Nat) (gs : List (Int × Int)) (a b : Int) (w : World) (ha : (Lit.int .i64 a).wf = true) (hb : (Lit.int .i64 b).wf = true) (hT : TwG w top q gs) :
    Calls Tryz.prog 96 #[.agg #[.pointer pp, .pointer (some ⟨q, 0, none⟩)], .int .i64 a, .int .i64 b] w fun e w' => e = .returned (.bool (memB gs (a, b))) ∧ Below w.heap.size w w' := by
  have hbx : Below w.heap.size w (w.alloc (.cells #[.pointer pp, .pointer (some ⟨q, 0, none⟩)] 93)) := below_box _
  have hat := numG_tw ha hb (hT.below (below_box (.cells #[.pointer pp, .pointer (some ⟨q, 0, none⟩)] 93)))
  obtain ⟨s0, s1⟩ := cells2 (heap_alloc_new w (.cells #[.pointer pp, .pointer (some ⟨q, 0, none⟩)] 93))
  obtain ⟨k, hk⟩ : ∃ k, k = num gs (a, b) := ⟨_, rfl⟩
  have hmk : memB gs (a, b) = (k != 0) := by unfold memB; rw [hk]
  rw [← hk] at hat
  rw [hmk]
  have HBX : Hid (Below w.heap.size w (w.alloc (.cells #[.pointer pp, .pointer (some ⟨q, 0, none⟩)] 93))) := hbx
  clear hmk hk hT hbx ha hb
  by_cases hk0 : k = 0
  · subst hk0
    go_enter Tryz.func96, Tryz.ntmps96
    go_wp2_with (go_at_call 105; (with_reducible refine hat.mono ?_); clear hat; rintro e w3 ⟨rfl, hb3⟩)
    go_ret
    exact ⟨rfl, HBX.out.trans (hb3.mono HBX.out.size)⟩
  · have hki : (k : Int) ≠ 0 := by omega
    have hkb : (k != 0) = true := by simp [hk0]
    rw [hkb]
    clear hk0 hkb
    go_enter Tryz.func96, Tryz.ntmps96
    go_wp2_with (go_at_call 105; (with_reducible refine hat.mono ?_); clear hat; rintro e w3 ⟨rfl, hb3⟩)
    go_ret
    exact ⟨ret_bool (by simp; omega), HBX.out.trans (hb3.mono HBX.out.size)⟩

end Go.Proofs.YtacjgnefomdoaaaGreatDoor

namespace Go.Proofs.YtacjgnefomdoaaaGreatDoor
open Go.RowKit Go.Shelf Go.Maps Go.WideMaps
attribute [local go_sem] Oper.semAt_some

theorem cell_lt {V : World} {a : Addr} {v : Value} (h : V.cell? a = some v) : a.block < V.heap.size := by
  unfold World.cell? at h
  cases hx : V.heap[a.block]? with
  | none => simp [hx] at h
  | some o => exact (Array.getElem?_eq_some_iff.1 hx).1

abbrev Wf : Type := { z : Int // (Lit.int .i64 z).wf = true }

set_option maxRecDepth 100000 in
set_option maxHeartbeats 2000000 in
theorem signers_tell (Br Bb Bi pg base n cap : Nat) (a : Option Addr) (zs : List Wf) (x y id : Int) (gs : List (Int × Int)) (pp : Option Addr) (w0 : World) (hn : n ≤ 1048576) (hI : IAt w0 a n (zs.map Subtype.val)) (hwi : (Lit.int .i64 id).wf = true)
    (hR : w0.heap[Br]? = some (.cells #[.slice a n cap, .int .i64 x, .int .i64 y] 82 (0, 0))) (hb : w0.heap[Bb]? = some (.cells #[.pointer pp, .pointer (some ⟨pg, 0, none⟩)] 93 (0, 0))) (hi : w0.heap[Bi]? = some (.cells #[.int .i64 id] 2 (0, 0))) (hT : TwG w0 base pg gs) :
    Tells 152 #[.pointer (some ⟨Br, 0, none⟩), .pointer (some ⟨Bb, 0, none⟩), .pointer (some ⟨Bi, 0, none⟩)] (fun x : Int => #[Value.int .i64 x]) w0.heap.size ((zs.map Subtype.val).filter fun k => memB gs (k, id)) w0 := by
  intro lp J W hbW hJ hY h0
  have HY := show Hid (∀ pre x W1, J pre W1 → pre.length < 1048576 → YieldAt Fence.wide 0 Tryz.prog lp #[Value.int .i64 x] W1 fun e W' => e = .returned (.bool true) ∧ J (pre ++ [x]) W' ∧ Below w0.heap.size W1 W' ∧ KeepsOthers W1 W' ∧ SameFrom W.heap.size W1 W') from hY
  have HJ : Hid (OwnFrom W.heap.size J) := hJ
  have HT : Hid (TwG w0 base pg gs) := hT
  have HBK : Hid (w0.heap[Bb]? = some (.cells #[.pointer pp, .pointer (some ⟨pg, 0, none⟩)] 93 (0, 0))) := hb
  have HID : Hid (w0.heap[Bi]? = some (.cells #[.int .i64 id] 2 (0, 0))) := hi
  have hR2 : W.heap[Br]? = some (.cells #[.slice a n cap, .int .i64 x, .int .i64 y] 82 (0, 0)) := (hbW.block Br (lt_of_block hR)).trans hR
  have hlR := lt_of_block hR2
  have hR3 : (W.alloc (.cells #[.func (.yield lp) #[] #[]] 72)).heap[Br]? = some (.cells #[.slice a n cap, .int .i64 x, .int .i64 y] 82 (0, 0)) := (Below.heap_alloc _ _ _ hlR).trans hR2
  obtain ⟨r0, r1, r2⟩ := cells3 hR3
  clear hY hT hb hi hJ
  refine (callsIn_wide (n := 3)).1 ?_
  show CallsIn Fence.wide 3 Tryz.prog 152 #[.func (.yield lp) #[] #[], .pointer (some ⟨Br, 0, none⟩), .pointer (some ⟨Bb, 0, none⟩), .pointer (some ⟨Bi, 0, none⟩)] W _
  refine callsIn_of_wp_marks Tryz.func152 rfl trivial ?_ rfl
  simp only [Tryz.ntmps152, List.size_toArray, List.length_cons, List.length_nil, Nat.reduceAdd, Nat.reduceSub, Array.replicate_succ, Array.replicate_zero, List.push_toArray, List.append_toArray, List.nil_append, List.cons_append]
  gi_wp2_with (first | (refine ⟨trivial, ?_⟩; gi_at_call 127; refine (callsIn_wide.2 (eachKey_any _ _ _ _ _ _)).mono ?_; rintro e w' ⟨rfl, hw⟩; subst hw))
  have hsz : w0.heap.size ≤ W.heap.size := hbW.size
  have hbx : Below W.heap.size W ((W.alloc (.cells #[.func (.yield lp) #[] #[]] 72)).alloc (.cells #[.slice a n cap, .int .i64 x, .int .i64 y] 82)) := below_box2 _ _
  have hb0 : Below w0.heap.size w0 ((W.alloc (.cells #[.func (.yield lp) #[] #[]] 72)).alloc (.cells #[.slice a n cap, .int .i64 x, .int .i64 y] 82)) := hbW.trans (hbx.mono hsz)
  have hcY : ((W.alloc (.cells #[.func (.yield lp) #[] #[]] 72)).alloc (.cells #[.slice a n cap, .int .i64 x, .int .i64 y] 82)).cell? ⟨W.heap.size, 0, none⟩ = some (.func (.yield lp) #[] #[]) := by
    unfold World.cell?; rw [block_at2]; rfl
  have hcR : ((W.alloc (.cells #[.func (.yield lp) #[] #[]] 72)).alloc (.cells #[.slice a n cap, .int .i64 x, .int .i64 y] 82)).cell? ⟨W.heap.size + 1, 0, none⟩ = some (.slice a n cap) := by
    unfold World.cell?; rw [heap_alloc_at _ _ _ (by simp)]; rfl
  have hJ2 : J [] ((W.alloc (.cells #[.func (.yield lp) #[] #[]] 72)).alloc (.cells #[.slice a n cap, .int .i64 x, .int .i64 y] 82)) := HJ.out.alloc _ (HJ.out.alloc _ h0)
  clear r0 r1 r2 hR3 hR2 hR hlR hbx h0
  refine wpIn_rangeFunc_ownG rfl (by omega) (gf := 142) (lb := #[.pointer (some ⟨W.heap.size + 1, 0, none⟩)]) rfl trivial (enters_of Tryz.func142 (by kernel_rfl) rfl)
    (each_stops (fun z : Wf => z.1) Fence.wide (3 - 1) trivial rfl (by omega) (W.heap.size + 1) n cap a zs w0 _ hn hI hb0 (by simp) hcR) belowK_t (belowK_b (by simp; omega)) (Below.refl _ _) (fun _ => rfl)
    (fun pre V => (J ((pre.map Subtype.val).filter fun k => memB gs (k, id)) V ∧ V.cell? ⟨W.heap.size, 0, none⟩ = some (.func (.yield lp) #[] #[])) ∧ Below w0.heap.size w0 V)
    (fun _ _ _ => False)
    (OwnFrom.and (OwnFrom.and (fun s A B row hs hg hr => HJ.out _ A B row hs hg (fun r e => ⟨by have := (hr r e).1; simp at this; omega, (hr r e).2⟩)) (Own.from (fun s A B row hs hg hr => cell_kept hs hg hr) _)) (ownFrom_below (Nat.le_refl _) (by simp; omega)))
    (fun c => fun _ _ _ _ hs _ _ => hs)
    ⟨⟨hJ2, hcY⟩, hb0⟩
    (fun z => { tmps := #[.func (.yield lp) #[] #[], .pointer (some ⟨Br, 0, none⟩), .pointer (some ⟨Bb, 0, none⟩), .pointer (some ⟨Bi, 0, none⟩), .pointer (some ⟨W.heap.size, 0, none⟩), .int .i64 z.1, .agg #[.slice a n cap, .int .i64 x, .int .i64 y], .func (.func 142) #[] #[.pointer (some ⟨W.heap.size + 1, 0, none⟩)], .int .i64 z.1, undef, undef, undef, undef, undef, undef, undef, undef, undef, undef], defers := [] }) ?assign ?body ?done ?stop
  case assign =>
    intro l z V K hK
    gi_wp2
    exact hK
  case body =>
    rintro l pre ⟨z, hz⟩ V ⟨⟨hj, hyc⟩, hBB⟩ hlen
    have hB2 := (hBB.block Bb (lt_of_block HBK.out)).trans HBK.out
    have hI2 := (hBB.block Bi (lt_of_block HID.out)).trans HID.out
    obtain ⟨k0, k1⟩ := cells2 hB2
    have i0 : V.cell? ⟨Bi, 0, none⟩ = some (.int .i64 id) := by unfold World.cell?; rw [hI2]; rfl
    have hnum := bookHas_any pp pg base gs z id V hz hwi (HT.out.below hBB)
    obtain ⟨mb, hmb⟩ : ∃ c, c = memB gs (z, id) := ⟨_, rfl⟩
    rw [← hmb] at hnum
    have HJV : Hid (J ((pre.map Subtype.val).filter fun k => memB gs (k, id)) V) := hj
    have HL : Hid (((pre.map Subtype.val).filter fun k => memB gs (k, id)).length < 1048576) := by
      have h1 := List.length_filter_le (fun k => memB gs (k, id)) (pre.map Subtype.val)
      rw [List.length_map] at h1
      exact Nat.lt_of_le_of_lt h1 (by omega)
    have HZ : Hid (((pre ++ [(⟨z, hz⟩ : Wf)]).map Subtype.val).filter (fun k => memB gs (k, id)) = ((pre.map Subtype.val).filter fun k => memB gs (k, id)) ++ if mb = true then [z] else []) := by
      show _ = _
      rw [List.map_append, List.filter_append]
      congr 1
      simp only [List.map_cons, List.map_nil, List.filter_cons, List.filter_nil, ← hmb]
    clear hmb hj hB2 hI2
    cases mb
    · gi_wp2_with (first | (refine ⟨trivial, ?_⟩; gi_at_call 96; refine (CallsIn.inRound l (callsIn_wide.2 hnum)).mono ?_; rintro e V2 ⟨rfl, hb2⟩))
      refine ⟨fun f e => (by cases e), ?_⟩
      gi_wp2
      have hg2 := grown_of_below hb2
      have hy2 := (hb2.cell (p := ⟨W.heap.size, 0, none⟩) (cell_lt hyc)).trans hyc
      have hz2 : ((pre ++ [(⟨z, hz⟩ : Wf)]).map Subtype.val).filter (fun k => memB gs (k, id)) = ((pre.map Subtype.val).filter fun k => memB gs (k, id)) := by rw [← List.append_nil ((pre.map Subtype.val).filter fun k => memB gs (k, id))]; exact HZ.out
      refine ⟨KeepsFrom.of_grownBy hg2 (fun j e => by cases e), hb2.mono hBB.size, ⟨?_, hy2⟩, hBB.trans (hb2.mono hBB.size)⟩
      rw [hz2]
      exact HJ.out _ V V2 none HJV.out hg2 (fun r e => by cases e)
    · gi_wp2_with (first | (refine ⟨trivial, ?_⟩; gi_at_call 96; refine (CallsIn.inRound l (callsIn_wide.2 hnum)).mono ?_; rintro e V2 ⟨rfl, hb2⟩; have hg2 := grown_of_below hb2; have hy2 := (hb2.cell (p := ⟨W.heap.size, 0, none⟩) (cell_lt hyc)).trans hyc; obtain ⟨fn, tmps, assign, body, hy, hR⟩ := HY.out _ z V2 (HJ.out _ V V2 none HJV.out hg2 (fun r e => by cases e)) HL.out))
      have hR' : RoundIn (Fence.wide.inRound l) 0 Tryz.prog lp fn tmps assign body V2 _ := hR
      refine hR'.mono ?_
      rintro e V3 ⟨rfl, hj3, hb3, hk3, hs3⟩
      gi_wp2
      have hz2 : ((pre ++ [(⟨z, hz⟩ : Wf)]).map Subtype.val).filter (fun k => memB gs (k, id)) = ((pre.map Subtype.val).filter fun k => memB gs (k, id)) ++ [z] := HZ.out
      have hy3 : V3.cell? ⟨W.heap.size, 0, none⟩ = some (.func (.yield lp) #[] #[]) := by unfold World.cell? at hy2 ⊢; rw [hs3 W.heap.size (Nat.le_refl _) (cell_lt (a := ⟨W.heap.size, 0, none⟩) hy2)]; exact hy2
      refine ⟨(KeepsFrom.of_grownBy hg2 (fun j e => by cases e)).trans (hk3.from _), (hb2.mono hBB.size).trans hb3, ⟨?_, hy3⟩, (hBB.trans (hb2.mono hBB.size)).trans hb3⟩
      rw [hz2]
      exact hj3
  case done =>
    rintro D ys V hD rfl ⟨⟨hj, _⟩, hBB⟩ hK
    gi_wp2
    refine ⟨by simp, .inl ⟨_, _, rfl, run_takeDeferred hK, ?_⟩⟩
    refine ⟨_, results_none rfl _ _ _, ⟨_, rfl⟩, ?_⟩
    exact HJ.out _ V _ (some D) hj (grownBy_putObj' V D (.deferred none)) (fun r e => by cases e; exact ⟨by simp at hD; omega, _, hK, rfl⟩)
  case stop =>
    rintro D c pre V hD hpre h hK
    exact h.elim

end Go.Proofs.YtacjgnefomdoaaaGreatDoor

namespace Go.Proofs.YtacjgnefomdoaaaGreatDoor
open Go.RowKit Go.Shelf Go.Maps Go.WideMaps

def cntK (l : List Int) (gs : List (Int × Int)) (id : Int) : Nat := (l.filter fun k => memB gs (k, id)).length
theorem cntK_next {l : List Int} {n k : Nat} (hn : l.length = n) (hlt : k < n) {s : Int} (hs : s = l.getD k 0) (gs : List (Int × Int)) (id : Int) : cntK (l.take (k + 1)) gs id = cntK (l.take k) gs id + (if memB gs (s, id) = true then 1 else 0) := by
  unfold cntK
  rw [take_next hn hlt hs, List.filter_append, List.length_append]
  congr 1
  by_cases h : memB gs (s, id) = true
  · simp [h]
  · simp [h]


end Go.Proofs.YtacjgnefomdoaaaGreatDoor

namespace Go.Proofs.YtacjgnefomdoaaaGreatDoor
open Go.RowKit Go.Shelf Go.Maps Go.WideMaps

theorem wf_list {l : List Int} (hw : ∀ k ∈ l, (Lit.int .i64 k).wf = true) : ∃ zs : List Wf, zs.map Subtype.val = l := by
  induction l with
  | nil => exact ⟨[], rfl⟩
  | cons k t ih =>
    obtain ⟨zs, e⟩ := ih fun j hj => hw j (List.mem_cons_of_mem _ hj)
    exact ⟨⟨k, hw k (List.mem_cons_self ..)⟩ :: zs, by rw [List.map_cons, e]⟩

/-- What is known behind a call of a block of three cells. -/
theorem keep3' {v v' : World} {P : Nat} {c0 c1 c2 : Value} (hl : P < v.heap.size) (hb : Below v.heap.size v v') (h : v.cell? ⟨P, 0, none⟩ = some c0 ∧ v.cell? ⟨P, 1, none⟩ = some c1 ∧ v.cell? ⟨P, 2, none⟩ = some c2) : v'.cell? ⟨P, 0, none⟩ = some c0 ∧ v'.cell? ⟨P, 1, none⟩ = some c1 ∧ v'.cell? ⟨P, 2, none⟩ = some c2 :=
  ⟨(hb.cell (p := ⟨P, 0, none⟩) hl).trans h.1, (hb.cell (p := ⟨P, 1, none⟩) hl).trans h.2.1, (hb.cell (p := ⟨P, 2, none⟩) hl).trans h.2.2⟩

/-- The signers are told, and counted. -/
theorem eachSigner_any (pp : Option Addr) (q base n cap : Nat) (a : Option Addr) (l : List Int) (x y id : Int) (gs : List (Int × Int)) (w : World) (hn : n ≤ 1048576) (hI : IAt w a n l) (hw : ∀ k ∈ l, (Lit.int .i64 k).wf = true) (hwi : (Lit.int .i64 id).wf = true) (hT : TwG w base q gs) :
    Calls Tryz.prog 138 #[.agg #[.pointer pp, .pointer (some ⟨q, 0, none⟩)], .agg #[.slice a n cap, .int .i64 x, .int .i64 y], .int .i64 id] w fun e w' => ∃ lb, e = .returned (.func (.func 152) #[] lb) ∧ Below w.heap.size w w' ∧
      Hid (Calls Tryz.prog 137 #[.func (.func 152) #[] lb] w' fun e w'' => e = .returned (.int .i64 (cntK l gs id : Nat)) ∧ Below w'.heap.size w' w'') := by
  have hmf : ∀ (fn : Fn) (first cap : Array Value) (w : World), (Instr.makeFunc fn first cap).run Tryz.prog w = .ok (.func fn first cap) w := fun _ _ _ _ => rfl
  obtain ⟨zs, hz⟩ := wf_list hw
  have hbx : Below w.heap.size w (((w.alloc (.cells #[.pointer pp, .pointer (some ⟨q, 0, none⟩)] 93)).alloc (.cells #[.slice a n cap, .int .i64 x, .int .i64 y] 82)).alloc (.cells #[.int .i64 id] 2)) := below_box3 _ _ _
  have hb2 : Below (w.alloc (.cells #[.pointer pp, .pointer (some ⟨q, 0, none⟩)] 93)).heap.size (w.alloc (.cells #[.pointer pp, .pointer (some ⟨q, 0, none⟩)] 93)) (((w.alloc (.cells #[.pointer pp, .pointer (some ⟨q, 0, none⟩)] 93)).alloc (.cells #[.slice a n cap, .int .i64 x, .int .i64 y] 82)).alloc (.cells #[.int .i64 id] 2)) := below_box2 _ _
  have hB := (keepb (heap_alloc_new w (.cells #[.pointer pp, .pointer (some ⟨q, 0, none⟩)] 93)) hb2).out
  have hR := (keepb (heap_alloc_new (w.alloc (.cells #[.pointer pp, .pointer (some ⟨q, 0, none⟩)] 93)) (.cells #[.slice a n cap, .int .i64 x, .int .i64 y] 82)) (below_box (.cells #[.int .i64 id] 2))).out
  have hD := heap_alloc_new ((w.alloc (.cells #[.pointer pp, .pointer (some ⟨q, 0, none⟩)] 93)).alloc (.cells #[.slice a n cap, .int .i64 x, .int .i64 y] 82)) (.cells #[.int .i64 id] 2)
  simp only [World.size_alloc] at hR hD
  have hcount := countKeys_any 152 #[.pointer (some ⟨w.heap.size + 1, 0, none⟩), .pointer (some ⟨w.heap.size, 0, none⟩), .pointer (some ⟨w.heap.size + 1 + 1, 0, none⟩)] _ _
    (signers_tell (w.heap.size + 1) w.heap.size (w.heap.size + 1 + 1) q base n cap a zs x y id gs pp _ hn (by rw [hz]; exact hI.below hbx (Nat.le_refl _)) hwi hR hB hD (hT.below hbx)) (enters_of Tryz.func152 (by kernel_rfl) rfl)
  rw [hz] at hcount
  have HC : Hid _ := hcount
  have HB : Hid (Below w.heap.size w (((w.alloc (.cells #[.pointer pp, .pointer (some ⟨q, 0, none⟩)] 93)).alloc (.cells #[.slice a n cap, .int .i64 x, .int .i64 y] 82)).alloc (.cells #[.int .i64 id] 2))) := hbx
  clear hcount hbx hb2 hB hR hD hT hI hw hz zs
  go_enter Tryz.func138, Tryz.ntmps138
  go_wp2
  go_ret
  exact ⟨_, rfl, HB.out, HC⟩

/-- Is a rule met, by a ledger that has no fault. -/
def metIn (ss : List ByteArray) (gs : List (Int × Int)) (l : List Int) (x y id h : Int) : Int :=
  if ruleR l x y ≠ 0 then ruleR l x y else if inB id 1 ss.length = false ∨ inB h 0 999 = false then 3 else if h < y then 9 else if (cntK l gs id : Int) < x then 6 else 0

set_option maxRecDepth 20000 in
set_option maxHeartbeats 2000000 in
theorem ruleMetIn_any (p q base top k cap : Nat) (a : Option Addr) (ss : List ByteArray) (gs : List (Int × Int)) (l : List Int) (x y id h : Int) (w : World) (hT : TwS w base p ss) (hG : TwG w top q gs) (hk : k ≤ 1048576) (hI : IAt w a k l) (hw : ∀ k ∈ l, (Lit.int .i64 k).wf = true) (hwi : (Lit.int .i64 id).wf = true) :
    Calls Tryz.prog 119 #[.agg #[.pointer (some ⟨p, 0, none⟩), .pointer (some ⟨q, 0, none⟩)], .agg #[.slice a k cap, .int .i64 x, .int .i64 y], .int .i64 id, .int .i64 h] w fun e w' => e = .returned (.int .i64 (metIn ss gs l x y id h)) ∧ Below w.heap.size w w' := by
  have hbx : Below w.heap.size w ((w.alloc (.cells #[.pointer (some ⟨p, 0, none⟩), .pointer (some ⟨q, 0, none⟩)] 93)).alloc (.cells #[.slice a k cap, .int .i64 x, .int .i64 y] 82)) := below_box2 _ _
  have hrf := iRuleFault_any k cap a l x y ((w.alloc (.cells #[.pointer (some ⟨p, 0, none⟩), .pointer (some ⟨q, 0, none⟩)] 93)).alloc (.cells #[.slice a k cap, .int .i64 x, .int .i64 y] 82)) hk (hI.below hbx (Nat.le_refl _))
  obtain ⟨r, hr⟩ : ∃ r, r = metIn ss gs l x y id h := ⟨_, rfl⟩
  obtain ⟨r2, hr2⟩ : ∃ r, r = ruleR l x y := ⟨_, rfl⟩
  obtain ⟨bi, hbi⟩ : ∃ r, r = inB id 1 ss.length := ⟨_, rfl⟩
  obtain ⟨bh, hbh⟩ : ∃ r, r = inB h 0 999 := ⟨_, rfl⟩
  obtain ⟨cn, hcn⟩ : ∃ r, r = cntK l gs id := ⟨_, rfl⟩
  have HR : Hid (r = if r2 ≠ 0 then r2 else if bi = false ∨ bh = false then 3 else if h < y then 9 else if (cn : Int) < x then 6 else 0) := by show _ = _; rw [hr, hr2, hbi, hbh, hcn]; rfl
  rw [← hr]
  rw [← hr2] at hrf
  have hht : ∀ v, Calls Tryz.prog 66 #[.int .i64 h] v fun e w' => e = .returned (.bool bh) ∧ w' = v := fun v => by rw [hbh]; exact isHeight_any h v
  have HBX : Hid (Below w.heap.size w ((w.alloc (.cells #[.pointer (some ⟨p, 0, none⟩), .pointer (some ⟨q, 0, none⟩)] 93)).alloc (.cells #[.slice a k cap, .int .i64 x, .int .i64 y] 82))) := hbx
  have T1 : Hid (((w.alloc (.cells #[.pointer (some ⟨p, 0, none⟩), .pointer (some ⟨q, 0, none⟩)] 93)).alloc (.cells #[.slice a k cap, .int .i64 x, .int .i64 y] 82)).heap[w.heap.size]? = some (.cells #[.pointer (some ⟨p, 0, none⟩), .pointer (some ⟨q, 0, none⟩)] 93 (0, 0))) := block_at2
  have T2 : Hid (((w.alloc (.cells #[.pointer (some ⟨p, 0, none⟩), .pointer (some ⟨q, 0, none⟩)] 93)).alloc (.cells #[.slice a k cap, .int .i64 x, .int .i64 y] 82)).heap[w.heap.size + 1]? = some (.cells #[.slice a k cap, .int .i64 x, .int .i64 y] 82 (0, 0))) := heap_alloc_at _ _ _ (by simp)
  have HID : Hid (∀ v, Below w.heap.size w v → Calls Tryz.prog 136 #[.pointer (some ⟨p, 0, none⟩), .int .i64 id] v fun e w' => e = .returned (.bool bi) ∧ w' = v) := fun v hv => by
    obtain ⟨ia, ic, hc, _⟩ := (hT.below hv).items
    rw [hbi]; exact hasNumber_any p ss.length ic ia id v hc
  have HES : Hid (∀ v, Below w.heap.size w v → Calls Tryz.prog 138 #[.agg #[.pointer (some ⟨p, 0, none⟩), .pointer (some ⟨q, 0, none⟩)], .agg #[.slice a k cap, .int .i64 x, .int .i64 y], .int .i64 id] v.drew fun e w' => ∃ lb, e = .returned (.func (.func 152) #[] lb) ∧ Below v.heap.size v w' ∧
      Hid (Calls Tryz.prog 137 #[.func (.func 152) #[] lb] w' fun e w'' => e = .returned (.int .i64 (cn : Nat)) ∧ Below w'.heap.size w' w'')) := fun v hv => by
    have hd : Below v.heap.size v v.drew := (Below.refl _ _).drew
    have hvd : Below w.heap.size w v.drew := hv.trans (hd.mono hv.size)
    have := eachSigner_any (some ⟨p, 0, none⟩) q top k cap a l x y id gs v.drew hk (hI.below hvd (Nat.le_refl _)) hw hwi (hG.below hvd)
    rw [← hcn] at this
    exact this.mono fun e w' ⟨lb, h1, h2, h3⟩ => ⟨lb, h1, hd.trans h2, h3⟩
  clear hr hr2 hbi hbh hcn hbx hT hG hI hw hwi
  by_cases h2 : r2 = 0
  · subst h2
    cases bi
    · obtain rfl : r = 3 := by rw [HR.out]; simp
      go_enter Tryz.func119, Tryz.ntmps119
      go_wp2_with (first | (go_at_call 109; (with_reducible refine hrf.mono ?_); clear hrf; rintro e w2 ⟨rfl, hb2⟩; have HB2 : Hid (Below w.heap.size w w2) := HBX.out.trans (hb2.mono HBX.out.size); have HX2 := keepb T1.out hb2; have HR2 := keepb T2.out hb2; obtain ⟨x0, x1⟩ := cells2 HX2.out; obtain ⟨p0, p1, p2⟩ := cells3 HR2.out; have hid2 := HID.out w2 HB2.out; clear hb2) | (go_at_call 136; (with_reducible refine hid2.mono ?_); clear hid2; rintro e w' ⟨rfl, hw⟩; have hw2 := hw.symm; subst hw2; clear hw))
      go_ret
      exact ⟨rfl, HB2.out⟩
    cases bh
    · obtain rfl : r = 3 := by rw [HR.out]; simp
      go_enter Tryz.func119, Tryz.ntmps119
      go_wp2_with (first | (go_at_call 109; (with_reducible refine hrf.mono ?_); clear hrf; rintro e w2 ⟨rfl, hb2⟩; have HB2 : Hid (Below w.heap.size w w2) := HBX.out.trans (hb2.mono HBX.out.size); have HX2 := keepb T1.out hb2; have HR2 := keepb T2.out hb2; obtain ⟨x0, x1⟩ := cells2 HX2.out; obtain ⟨p0, p1, p2⟩ := cells3 HR2.out; have hid2 := HID.out w2 HB2.out; clear hb2) | (go_at_call 136; (with_reducible refine hid2.mono ?_); clear hid2; rintro e w' ⟨rfl, hw⟩; have hw2 := hw.symm; subst hw2; clear hw) | (go_at_call 66; (with_reducible refine (hht _).mono ?_); rintro e w' ⟨rfl, hw⟩; have hw2 := hw.symm; subst hw2; clear hw))
      go_ret
      exact ⟨rfl, HB2.out⟩
    have hr3 : r = if h < y then 9 else if (cn : Int) < x then 6 else 0 := by rw [HR.out]; simp
    by_cases hy : h < y
    · obtain rfl : r = 9 := by rw [hr3, if_pos hy]
      clear hr3
      go_enter Tryz.func119, Tryz.ntmps119
      go_wp2_with (first | (go_at_call 109; (with_reducible refine hrf.mono ?_); clear hrf; rintro e w2 ⟨rfl, hb2⟩; have HB2 : Hid (Below w.heap.size w w2) := HBX.out.trans (hb2.mono HBX.out.size); have HX2 := keepb T1.out hb2; have HR2 := keepb T2.out hb2; obtain ⟨x0, x1⟩ := cells2 HX2.out; obtain ⟨p0, p1, p2⟩ := cells3 HR2.out; have hid2 := HID.out w2 HB2.out; clear hb2) | (go_at_call 136; (with_reducible refine hid2.mono ?_); clear hid2; rintro e w' ⟨rfl, hw⟩; have hw2 := hw.symm; subst hw2; clear hw) | (go_at_call 66; (with_reducible refine (hht _).mono ?_); rintro e w' ⟨rfl, hw⟩; have hw2 := hw.symm; subst hw2; clear hw))
      go_ret
      exact ⟨rfl, HB2.out⟩
    rw [if_neg hy] at hr3
    have HR3 : Hid (r = if (cn : Int) < x then 6 else 0) := hr3
    clear hr3 HR
    go_enter Tryz.func119, Tryz.ntmps119
    go_wp2_with (first | (go_at_call 109; (with_reducible refine hrf.mono ?_); clear hrf; rintro e w2 ⟨rfl, hb2⟩; have HB2 : Hid (Below w.heap.size w w2) := HBX.out.trans (hb2.mono HBX.out.size); have HX2 := keepb T1.out hb2; have HR2 := keepb T2.out hb2; obtain ⟨x0, x1⟩ := cells2 HX2.out; obtain ⟨p0, p1, p2⟩ := cells3 HR2.out; have hid2 := HID.out w2 HB2.out; clear hb2) | (go_at_call 136; (with_reducible refine hid2.mono ?_); clear hid2; rintro e w' ⟨rfl, hw⟩; have hw2 := hw.symm; subst hw2; clear hw) | (go_at_call 66; (with_reducible refine (hht _).mono ?_); rintro e w' ⟨rfl, hw⟩; have hw2 := hw.symm; subst hw2; clear hw))
    have hl1 := lt_of_block HX2.out
    have hl2 := lt_of_block HR2.out
    have hes := HES.out w2 HB2.out
    go_region_held3 (fun w' => (w'.cell? ⟨w.heap.size, 0, none⟩ = some (.pointer (some ⟨p, 0, none⟩)) ∧ w'.cell? ⟨w.heap.size, 1, none⟩ = some (.pointer (some ⟨q, 0, none⟩))) ∧ w'.cell? ⟨w.heap.size + 1, 0, none⟩ = some (.slice a k cap) ∧ w'.cell? ⟨w.heap.size + 1, 1, none⟩ = some (.int .i64 x) ∧ w'.cell? ⟨w.heap.size + 1, 2, none⟩ = some (.int .i64 y)) (go_keep)
      (first
        | (go_at_call 138; refine hes.mono ?_; rintro e w5 ⟨lb, rfl, hb5, HC5⟩; obtain ⟨z0, z1, z2⟩ := keep3' hl2 hb5 ⟨p0, p1, p2⟩; have z3 := (hb5.cell (p := ⟨w.heap.size, 0, none⟩) hl1).trans x0; have z4 := (hb5.cell (p := ⟨w.heap.size, 1, none⟩) hl1).trans x1)
        | (go_at_call 137; refine HC5.out.mono ?_; rintro e w6 ⟨rfl, hb6⟩; have hs5 := hb5.size; obtain ⟨y0, y1, y2⟩ := keep3' (Nat.lt_of_lt_of_le hl2 hs5) hb6 ⟨z0, z1, z2⟩; have y3 := (hb6.cell (p := ⟨w.heap.size, 0, none⟩) (Nat.lt_of_lt_of_le hl1 hs5)).trans z3; have y4 := (hb6.cell (p := ⟨w.heap.size, 1, none⟩) (Nat.lt_of_lt_of_le hl1 hs5)).trans z4))
    have HB6 : Hid (Below w.heap.size w w6) := (HB2.out.trans (hb5.mono HB2.out.size)).trans (hb6.mono (by have := HB2.out.size; omega))
    by_cases hx : (cn : Int) < x
    · obtain rfl : r = 6 := by rw [HR3.out, if_pos hx]
      go_wp2
      go_ret
      exact ⟨rfl, HB6.out⟩
    · obtain rfl : r = 0 := by rw [HR3.out, if_neg hx]
      go_wp2
      go_ret
      exact ⟨rfl, HB6.out⟩
  · obtain rfl : r = r2 := by rw [HR.out]; simp [h2]
    go_enter Tryz.func119, Tryz.ntmps119
    go_wp2_with (first | (go_at_call 109; (with_reducible refine hrf.mono ?_); clear hrf; rintro e w2 ⟨rfl, hb2⟩; have HB2 : Hid (Below w.heap.size w w2) := HBX.out.trans (hb2.mono HBX.out.size); have HX2 := keepb T1.out hb2; have HR2 := keepb T2.out hb2; obtain ⟨x0, x1⟩ := cells2 HX2.out; obtain ⟨p0, p1, p2⟩ := cells3 HR2.out; have hid2 := HID.out w2 HB2.out; clear hb2))
    go_ret
    exact ⟨rfl, HB2.out⟩

end Go.Proofs.YtacjgnefomdoaaaGreatDoor

namespace Go.Proofs.YtacjgnefomdoaaaGreatDoor
open Go.RowKit Go.Maps Go.WideMaps

def ripeB (h : Int) (m : Bool) (t : Int) : Bool := inB h 0 999 && inB t 0 999 && (!m || decide (h + 2 ≤ t))

theorem inB_bounds {v a b : Int} (h : inB v a b = true) : a ≤ v ∧ v ≤ b := by simpa [inB] using h

set_option maxRecDepth 20000 in
set_option maxHeartbeats 2000000 in
theorem iIsRipe_any (p q v : Int) (a : Option Addr) (n cap : Nat) (x y h t : Int) (m : Bool) (w : World) :
    Calls Tryz.prog 118 #[.agg #[.int .i64 p, .int .i64 q, .int .i64 v, .slice a n cap, .int .i64 x, .int .i64 y, .int .i64 h, .bool m], .int .i64 t] w fun e w' => e = .returned (.bool (ripeB h m t)) ∧ Below w.heap.size w w' := by
  have hbx : Below w.heap.size w (w.alloc (.cells #[.int .i64 p, .int .i64 q, .int .i64 v, .slice a n cap, .int .i64 x, .int .i64 y, .int .i64 h, .bool m] 86)) := below_box _
  have hX := heap_alloc_new w (.cells #[.int .i64 p, .int .i64 q, .int .i64 v, .slice a n cap, .int .i64 x, .int .i64 y, .int .i64 h, .bool m] 86)
  obtain ⟨⟨s0, s1, s2, s3, s4, s5, s6, s7⟩, _⟩ := cells8 hX
  obtain ⟨kt, hkt⟩ : ∃ k, k = inB t 0 999 := ⟨_, rfl⟩
  obtain ⟨kh, hkh⟩ : ∃ k, k = inB h 0 999 := ⟨_, rfl⟩
  have h1 : ∀ u, Calls Tryz.prog 66 #[.int .i64 t] u fun e w' => e = .returned (.bool kt) ∧ w' = u := fun u => by rw [hkt]; exact isHeight_any _ u
  have h2 : ∀ u, Calls Tryz.prog 66 #[.int .i64 h] u fun e w' => e = .returned (.bool kh) ∧ w' = u := fun u => by rw [hkh]; exact isHeight_any _ u
  have hr : ripeB h m t = (kh && kt && (!m || decide (h + 2 ≤ t))) := by unfold ripeB; rw [hkt, hkh]
  rw [hr]
  have HBX : Hid (Below w.heap.size w (w.alloc (.cells #[.int .i64 p, .int .i64 q, .int .i64 v, .slice a n cap, .int .i64 x, .int .i64 y, .int .i64 h, .bool m] 86))) := hbx
  have HKH : Hid (inB h 0 999 = kh) := hkh.symm
  clear hr hbx hX hkt hkh
  cases kh with
  | false =>
    go_enter Tryz.func118, Tryz.ntmps118
    go_wp2_with (go_at_call 66; (with_reducible refine (h2 _).mono ?_); clear h2; rintro e w' ⟨rfl, hw⟩; have hw2 := hw.symm; subst hw2)
    go_ret
    exact ⟨by simp, HBX.out⟩
  | true =>
    have hb : 0 ≤ h ∧ h ≤ 999 := inB_bounds HKH.out
    have hw : IntKind.i64.wrap (h + 2) = h + 2 := IntWalk.i64_in _ (by omega)
    cases kt with
    | false =>
      go_enter Tryz.func118, Tryz.ntmps118
      go_wp2_with (go_at_call 66; (first | ((with_reducible refine (h2 _).mono ?_); clear h2) | ((with_reducible refine (h1 _).mono ?_); clear h1)); rintro e w' ⟨rfl, hw⟩; have hw2 := hw.symm; subst hw2)
      go_ret
      exact ⟨by simp, HBX.out⟩
    | true =>
      cases m with
      | false =>
        go_enter Tryz.func118, Tryz.ntmps118
        go_wp2_with (go_at_call 66; (first | ((with_reducible refine (h2 _).mono ?_); clear h2) | ((with_reducible refine (h1 _).mono ?_); clear h1)); rintro e w' ⟨rfl, hw⟩; have hw2 := hw.symm; subst hw2)
        go_ret
        exact ⟨by simp, HBX.out⟩
      | true =>
        go_enter Tryz.func118, Tryz.ntmps118
        go_wp2_with (go_at_call 66; (first | ((with_reducible refine (h2 _).mono ?_); clear h2) | ((with_reducible refine (h1 _).mono ?_); clear h1)); rintro e w' ⟨rfl, hw⟩; have hw2 := hw.symm; subst hw2)
        go_ret
        exact ⟨by simp, HBX.out⟩

end Go.Proofs.YtacjgnefomdoaaaGreatDoor
