/- The pieces of a text told one by one to who gathers texts. -/
import Derived.Test.YtlcdhhaikhieiaaDoorAg
import Derived.RangeFuncBox
import Derived.Maps.OwnIn
import Derived.Maps.AppendAt
namespace Go.Proofs.YtlcdhhaikhieiaaDoor
open Go.RowKit Go.Shelf Go.Maps Go.WideMaps
attribute [local go_sem] Oper.semAt_some

/-- An invariant that abides the turn of these blocks, and of such as hold no cells. -/
def OwnW {β : Type} (p q : Nat → Prop) (I : β → World → Prop) : Prop := ∀ s W W' row, I s W → W.grownBy W' row → (∀ r, row = some r → p r ∨ (q r ∧ ∃ o, W.heap[r]? = some o ∧ o.isCells = false)) → I s W'
theorem OwnW.alloc {β : Type} {p q : Nat → Prop} {I : β → World → Prop} (h : OwnW p q I) {s : β} {W : World} (o : Obj) (hs : I s W) : I s (W.alloc o) :=
  h s W _ none hs (World.grownBy_alloc W o none) (fun r e => by cases e)
theorem OwnW.putObj {β : Type} {p q : Nat → Prop} {I : β → World → Prop} (h : OwnW p q I) {s : β} {W : World} {l : Nat} {o : Obj} (o' : Obj) (hs : I s W) (hl : q l) (ho : W.heap[l]? = some o) (hn : o.isCells = false) : I s (W.putObj l o') :=
  h s W _ (some l) hs (grownBy_putObj' W l o') (fun r e => by cases e; exact .inr ⟨hl, o, ho, hn⟩)
theorem OwnW.setCell {β : Type} {p q : Nat → Prop} {I : β → World → Prop} (h : OwnW p q I) {s : β} {W : World} {a : Addr} (v : Value) (hs : I s W) (hl : p a.block) : I s (W.setCell a v) :=
  h s W _ _ hs (grownBy_setCell W a v) (fun r e => by cases e; exact .inl hl)
/-- These blocks are as they were. -/
def KeptB (p : Nat → Prop) (V V' : World) : Prop := ∀ k o, V.heap[k]? = some o → p k → V'.heap[k]? = some o
theorem KeptB.trans {p : Nat → Prop} {A B C : World} (h : KeptB p A B) (k : KeptB p B C) : KeptB p A C := fun j o hj hp => k j o (h j o hj hp) hp

/-- What an iterator owes to who gathers texts. -/
def TellsW {α : Type} (own keep : Nat → Prop) (g : Nat) (lb : Array Value) (encs : α → Array Value) (xs : List α) (w : World) : Prop :=
  ∀ (l : Nat) (J : List α → World → Prop) (W : World), w.heap.size ≤ W.heap.size → KeptB keep w W → OwnW own (fun r => W.heap.size ≤ r) J →
    (∀ pre x W1, x ∈ xs → J pre W1 → pre.length < 4000000 → YieldAt Fence.wide 0 Tryd.prog l (encs x) W1 fun e W' => e = .returned (.bool true) ∧ J (pre ++ [x]) W' ∧ KeepsOthers W1 W' ∧ KeptB keep W1 W') → J [] W →
    Calls Tryd.prog g (#[.func (.yield l) #[] #[]] ++ lb) W fun e W' => (∃ v, e = .returned v) ∧ J xs W'

/-- Who ranges to the end over such an iterator. -/
theorem range_allW {α : Type} {own keep : Nat → Prop} {g : Operand} {ps : Array Tmp} {assign body : Code} {Q : Exit → Act → World → Prop} {a : Act} {w w0 : World} {n : Nat} (h1 : 1 ≤ n) {gf : Nat} {lb : Array Value}
    (hg : a.eval g = .func (.func gf) #[] lb) (eg : ∀ args w, (callFunc gf args).run Tryd.prog w = .ok (.enter gf args) w) {encs : α → Array Value} {xs : List α} (hT : TellsW own keep gf lb encs xs w0) (hown : ∀ r, own r → r < w.heap.size) (hkp : ∀ r, keep r → r < w0.heap.size) (hsw : w0.heap.size ≤ w.heap.size) (hkw : KeptB keep w0 w) (hps : ∀ x, (encs x).size = ps.size)
    (I : List α → World → Prop) (hI : OwnW own (fun r => w.heap.size ≤ r) I) (h0 : I [] w) (a₁ : α → Act)
    (hassign : ∀ (l : Nat) (x : α) (W : World) (K : Act → World → Prop), K (a₁ x) W →
      assign.wpIn (Fence.wide.inRound l) 1 Tryd.prog (Exit.then K (fun _ _ _ => False)) { tmps := (ps.zip (encs x)).foldl (fun t (p, v) => t.setIfInBounds p v) a.tmps, defers := [] } W)
    (hbody : ∀ (l : Nat) (pre : List α) (x : α) (W : World), x ∈ xs → I pre W → pre.length < 4000000 → body.wpIn (Fence.wide.inRound l) 1 Tryd.prog (fun e _ W' => e = .normal ∧ KeepsOthers W W' ∧ KeptB keep W W' ∧ I (pre ++ [x]) W') (a₁ x) W)
    (hdone : ∀ (D : Nat) (W : World), w.heap.size ≤ D → I xs W → W.heap[D]? = some (.deferred (some [])) → Q .normal { a with defers := { target := .collected D, args := #[] } :: a.defers } W) :
    (Code.rangeFunc g ps assign body).wpIn Fence.wide n Tryd.prog Q a w := by
  refine wpIn_rangeFunc fun fn _ => ?_
  obtain ⟨rec, hrec⟩ : ∃ rec : LoopState → Loop, rec = fun st => { state := st, pending := none, fn, tmps := a.tmps, params := ps, assign, body, defers := w.heap.size } := ⟨_, rfl⟩
  obtain ⟨W1, hW1⟩ : ∃ W1, (w.alloc (.deferred (some []))).alloc (.loop (rec .ready)) = W1 := ⟨_, rfl⟩
  have hsz : W1.heap.size = w.heap.size + 2 := by rw [← hW1]; simp
  have hL1 : W1.heap[w.heap.size + 1]? = some (.loop (rec .ready)) := by
    rw [← hW1]; have := World.alloc_heap_new (w.alloc (.deferred (some []))) (.loop (rec .ready)); rwa [World.size_alloc] at this
  have hK1 : W1.heap[w.heap.size]? = some (.deferred (some [])) := by
    rw [← hW1]; exact (Below.heap_alloc _ _ _ (by simp)).trans (World.alloc_heap_new w _)
  have hI1 : I [] W1 := by rw [← hW1]; exact hI.alloc _ (hI.alloc _ h0)
  have hb1 : Below w.heap.size w W1 := by rw [← hW1]; exact below_box2 _ _
  have hkW : KeptB keep w0 W1 := hkw.trans (fun j o hj hp => (hb1.block j (Nat.lt_of_lt_of_le (hkp j hp) hsw)).trans hj)
  refine ⟨w.heap.size + 1, [{ target := .collected w.heap.size, args := #[] }], W1, { target := .fn (.func gf) lb, args := #[.func (.yield (w.heap.size + 1)) #[] #[]] }, W1, gf,
    #[.func (.yield (w.heap.size + 1)) #[] #[]] ++ lb, W1, ?_, ?_, ?_, ?_, fun _ => h1, ?_⟩
  · rw [← hW1, hrec]; exact run_enterLoop_outer _ _ _ _ _
  · simp only [resolve, hg]
    simp [go_sem]
  · intro f' _; trivial
  · simp [invoke, go_sem, eg]
  refine (callsIn_wide.2 (hT (w.heap.size + 1) (fun pre W => I pre W ∧ W.heap[w.heap.size + 1]? = some (.loop (rec .ready)) ∧ W.heap[w.heap.size]? = some (.deferred (some []))) W1 (by omega) hkW ?_ ?_ ⟨hI1, hL1, hK1⟩)).mono ?_
  · rintro s A C row ⟨hi, hl, hk⟩ hgr hrow
    have hne : ∀ j, j < w.heap.size + 2 → w.heap.size ≤ j → j < A.heap.size → C.heap[j]? = A.heap[j]? := fun j hj hj2 hjA => hgr.block j hjA (fun e => by
      rcases hrow j e.symm with q | q
      · have := hown j q; omega
      · have := q.1; omega)
    refine ⟨hI s A C row hi hgr (fun r e => by
      rcases hrow r e with q | q
      · exact .inl q
      · exact .inr ⟨by have := q.1; omega, q.2⟩), (hne _ (by omega) (by omega) (lt_of_block hl)).trans hl, (hne _ (by omega) (by omega) (lt_of_block hk)).trans hk⟩
  · rintro pre x W hx ⟨hi, hl, hk⟩ hlen
    have hlt := lt_of_block hl
    have hy := run_yield (P := Tryd.prog) (args := encs x) hl (by rw [hrec]; exact hps x)
    rw [hrec] at hy
    refine ⟨fn, _, assign, body, hy, round_any (n := 1) (roundIn_of_wpIn trivial (hassign _ x W _ ⟨_, run_beginRound hl (by rw [hrec]), ?_⟩))⟩
    obtain ⟨Wb, hWb⟩ : ∃ Wb, W.putObj (w.heap.size + 1) (.loop (rec .busy)) = Wb := ⟨_, rfl⟩
    have eb : W.putObj (w.heap.size + 1) (.loop { rec .ready with state := .busy }) = Wb := by rw [← hWb, hrec]
    rw [eb]
    have hl2 : Wb.heap[w.heap.size + 1]? = some (.loop (rec .busy)) := by rw [← hWb]; exact World.putObj_heap_same hlt
    have hsb : Wb.heap.size = W.heap.size := by rw [← hWb]; simp
    have hob : ∀ k, k ≠ w.heap.size + 1 → Wb.heap[k]? = W.heap[k]? := fun k hk => by rw [← hWb]; exact World.putObj_heap_other hk
    have hib : I pre Wb := by rw [← hWb]; exact hI.putObj _ hi (by omega) hl rfl
    refine wpIn_mono (hbody _ pre x _ hx hib hlen) ?_
    rintro e a3 W3 ⟨rfl, hk3, hs3, hi3⟩
    have hl3 := hk3.same _ _ hl2 rfl
    have hr := run_endRound (P := Tryd.prog) none hl3
    have ee : W3.putObj (w.heap.size + 1) (.loop { rec .busy with state := if (none : Option Code).isNone then .ready else .done, pending := none }) = W3.putObj (w.heap.size + 1) (.loop (rec .ready)) := by rw [hrec]; rfl
    rw [ee] at hr
    have hof : ∀ k, k ≠ w.heap.size + 1 → (W3.putObj (w.heap.size + 1) (.loop (rec .ready))).heap[k]? = W3.heap[k]? := fun k hk => World.putObj_heap_other hk
    refine ⟨_, _, hr, rfl, ⟨hI.putObj _ hi3 (by omega) hl3 rfl, World.putObj_heap_same (lt_of_block hl3), ?_⟩, ⟨?_, ?_⟩, ?_⟩
    · have h2 : Wb.heap[w.heap.size]? = some (.deferred (some [])) := (hob _ (by omega)).trans hk
      exact (hof _ (by omega)).trans (hk3.same _ _ h2 rfl)
    · have := hk3.size
      simp
      omega
    · intro k o hk' ho
      by_cases e : k = w.heap.size + 1
      · subst e
        rw [hl] at hk'
        cases hk'
        exact World.putObj_heap_same (lt_of_block hl3)
      · exact (hof k e).trans (hk3.same _ _ ((hob k e).trans hk') ho)
    · intro k o hko hk'
      have hne : k ≠ w.heap.size + 1 := by have := hkp k hk'; omega
      exact (hof k hne).trans (hs3 k o ((hob k hne).trans hko) hk')
  · rintro e W2 ⟨⟨v, rfl⟩, hi, hl, hk⟩
    have hend := run_endLoop (P := Tryd.prog) hl (by rw [hrec]; simp)
    have hp : (rec .ready).pending = none := by rw [hrec]
    rw [hp] at hend
    exact ⟨none, _, hend, hdone w.heap.size _ (Nat.le_refl _) (hI.putObj _ hi (Nat.le_succ _) hl rfl) ((World.putObj_heap_other (by omega)).trans hk)⟩

set_option maxRecDepth 100000 in
set_option maxHeartbeats 4000000 in
theorem split_tellsW (b0 b1 b2 : Nat) (c : UInt8) (t : List UInt8) (w0 : World) (ht : t.length ≤ 1048576) (h0 : w0.heap[b0]? = some (.cells #[.string (str t)] 9 (0, 0))) (h1 : w0.heap[b1]? = some (.cells #[.string ⟨#[c]⟩] 9 (0, 0))) (h2 : w0.heap[b2]? = some (.cells #[.int .i64 0] 3 (0, 0))) (h01 : b0 ≠ b1) (h02 : b0 ≠ b2) :
    TellsW (fun r => r = b0) (fun r => r = b0 ∨ r = b1 ∨ r = b2) 65 #[.pointer (some ⟨b1, 0, none⟩), .pointer (some ⟨b0, 0, none⟩), .pointer (some ⟨b2, 0, none⟩)] (fun s : List UInt8 => #[Value.string (str s)]) (cutL c t) w0 := by
  intro lp J W hsW hkW hJ hY hJ0
  have HY := show Hid (∀ pre x W1, x ∈ cutL c t → J pre W1 → pre.length < 4000000 → YieldAt Fence.wide 0 Tryd.prog lp #[Value.string (str x)] W1 fun e W' => e = .returned (.bool true) ∧ J (pre ++ [x]) W' ∧ KeepsOthers W1 W' ∧ KeptB (fun k => k = b0 ∨ k = b1 ∨ k = b2) W1 W') from hY
  have HJ : Hid (OwnW (fun r => r = b0) (fun r => W.heap.size ≤ r) J) := hJ
  have HI0 : Hid (SpI W b0 b1 b2 c t J t []) := ⟨hkW b0 _ h0 (.inl rfl), hkW b1 _ h1 (.inr (.inl rfl)), hkW b2 _ h2 (.inr (.inr rfl)), rfl, hJ0, by simp⟩
  have s1 : W.cell? ⟨b1, 0, none⟩ = some (.string ⟨#[c]⟩) := by unfold World.cell?; rw [HI0.out.sep]; rfl
  clear hY hJ hJ0 h0 h1 h2 hkW
  refine (callsIn_wide (n := 3)).1 ?_
  show CallsIn Fence.wide 3 Tryd.prog 65 #[.func (.yield lp) #[] #[], .pointer (some ⟨b1, 0, none⟩), .pointer (some ⟨b0, 0, none⟩), .pointer (some ⟨b2, 0, none⟩)] W _
  refine callsIn_of_wp Tryd.func65 rfl trivial ?_ rfl
  simp only [Tryd.ntmps65, List.size_toArray, List.length_cons, List.length_nil, Nat.reduceAdd, Nat.reduceSub, Array.replicate_succ, Array.replicate_zero, List.push_toArray, List.append_toArray, List.nil_append, List.cons_append]
  gi_wp2
  gi_loopw [7] (fun _ wr => Hid (∃ r pre, SpI wr b0 b1 b2 c t J r pre)) (fun _ wr => leftS b0 wr)
  case atStart => exact ⟨t, [], HI0.out⟩
  case round =>
    obtain ⟨r, pre, hS⟩ := (show Hid (∃ r pre, SpI wr b0 b1 b2 c t J r pre) from hrel).out
    have c0 : wr.cell? ⟨b0, 0, none⟩ = some (.string (str r)) := by unfold World.cell?; rw [hS.box]; rfl
    have c1 : wr.cell? ⟨b1, 0, none⟩ = some (.string ⟨#[c]⟩) := by unfold World.cell?; rw [hS.sep]; rfl
    have c2 : wr.cell? ⟨b2, 0, none⟩ = some (.int .i64 0) := by unfold World.cell?; rw [hS.sav]; rfl
    have hix := Tryd.strings_Index_one (str r) c wr
    have er : (str r).data.toList = r := by simp [str]
    rw [er, ← Lib.index_one] at hix
    have HS : Hid (SpI wr b0 b1 b2 c t J r pre) := hS
    have hfew := hS.few
    clear hS er
    by_cases hc : c ∈ r
    · obtain ⟨a, b, hab, ha⟩ := mem_first hc
      have hi : Lib.index r [c] = a.length := by
        have := index_at (tl := []) (r := b) ha
        rw [hab]
        simpa using this
      rw [hi] at hix
      have hlen : r.length = a.length + 1 + b.length := by rw [hab]; simp; omega
      have x1 : (str r).extract 0 a.length = str a := by rw [str_cut, hab]; simp
      have x2 : (str r).extract (a.length + 1) r.length = str b := by
        rw [str_cut, hab]
        simp
        rw [show a.length + (b.length + 1) - (a.length + 1) = b.length by omega, List.take_length]
      obtain ⟨fn, tmps, assign, body, hy, hR⟩ := HY.out _ a wr (by rw [HS.out.cut, hab, cutL_at ha]; simp) HS.out.inv (by omega)
      have hR' := round_any (m := 2) hR
      have hsz := size_str r
      have hw0 : IntKind.i64.wrap (a.length : Int) = (a.length : Int) := IntWalk.i64_in _ (by omega)
      have hw1 : IntKind.i64.wrap ((a.length : Int) + 1) = (a.length : Int) + 1 := IntWalk.i64_in _ (by omega)
      have hneg : ¬ (a.length : Int) < 0 := by omega
      have HCUT : Hid (cutL c t = (pre ++ [a]) ++ cutL c b) := by show _ = _; rw [HS.out.cut, hab, cutL_at ha]; simp
      have HX2 : Hid ((str r).extract (a.length + 1) r.length = str b) := x2
      have HLEN : Hid (r.length = a.length + 1 + b.length) := hlen
      have hal : a.length + 1 ≤ r.length := by omega
      clear hlen hi hab ha hc hR
      gi_wp2_with (first | (refine ⟨trivial, ?_⟩; gi_at_call 67; refine (callsIn_wide.2 hix).mono ?_; rintro e w' ⟨rfl, hw'⟩; have hw2 := hw'.symm; subst hw2))
      refine hR'.mono ?_
      rintro e W3 ⟨rfl, hJ3, hk3, hs3⟩
      have d0 : W3.heap[b0]? = some (.cells #[.string (str r)] 9 (0, 0)) := hs3 b0 _ HS.out.box (.inl rfl)
      have d1 : W3.heap[b1]? = some (.cells #[.string ⟨#[c]⟩] 9 (0, 0)) := hs3 b1 _ HS.out.sep (.inr (.inl rfl))
      have d2 : W3.heap[b2]? = some (.cells #[.int .i64 0] 3 (0, 0)) := hs3 b2 _ HS.out.sav (.inr (.inr rfl))
      have e0 : W3.cell? ⟨b0, 0, none⟩ = some (.string (str r)) := by unfold World.cell?; rw [d0]; rfl
      have e1 : W3.cell? ⟨b1, 0, none⟩ = some (.string ⟨#[c]⟩) := by unfold World.cell?; rw [d1]; rfl
      have g0 := Joins.unfrozen_of_block d0 0
      have HD0 : Hid (W3.heap[b0]? = some (.cells #[.string (str r)] 9 (0, 0))) := d0
      have HD1 : Hid (W3.heap[b1]? = some (.cells #[.string ⟨#[c]⟩] 9 (0, 0))) := d1
      have HD2 : Hid (W3.heap[b2]? = some (.cells #[.int .i64 0] 3 (0, 0))) := d2
      have HJ3 : Hid (J (pre ++ [a]) W3) := hJ3
      clear d0 d1 d2 hJ3 c0 c1 c2 hy hk3 hs3
      gi_wp2
      go_roundw
      case rel =>
        refine ⟨b, pre ++ [a], ?_, (Below.heap_setCell _ ⟨b0, 0, none⟩ _ b1 (Ne.symm h01)).trans HD1.out, (Below.heap_setCell _ ⟨b0, 0, none⟩ _ b2 (Ne.symm h02)).trans HD2.out, HCUT.out, HJ.out.setCell _ HJ3.out rfl, ?_⟩
        · have := Joins.block_setCell (i := 0) HD0.out (.string ((str r).extract (a.length + 1) r.length))
          rw [HX2.out] at this
          simpa [HX2.out] using this
        · have := HLEN.out; simp; omega
      case measure => rw [left_set b HD0.out, HS.out.left]; have := HLEN.out; omega
    · have hi : Lib.index r [c] = -1 := index_no hc
      rw [hi] at hix
      obtain ⟨fn, tmps, assign, body, hy, hR⟩ := HY.out _ r wr (by rw [HS.out.cut, cutL_one hc]; simp) HS.out.inv (by omega)
      have hR' := round_any (m := 2) hR
      have HCUT : Hid (cutL c t = pre ++ [r]) := by show _ = _; rw [HS.out.cut, cutL_one hc]
      clear hR hi hc
      gi_wp2_with (first | (refine ⟨trivial, ?_⟩; gi_at_call 67; refine (callsIn_wide.2 hix).mono ?_; rintro e w' ⟨rfl, hw'⟩; have hw2 := hw'.symm; subst hw2))
      refine hR'.mono ?_
      rintro e W3 ⟨rfl, hJ3, hk3, hs3⟩
      gi_wp2
      go_end0
      exact ⟨⟨_, rfl⟩, by rw [HCUT.out]; exact hJ3⟩

/-- A line's words. -/
def wordsL (t : List UInt8) : List (List UInt8) := (cutL 32 t).filter (fun p => decide (p ≠ []))
def wordsF (ps : List (List UInt8)) : List (List UInt8) := ps.filter (fun p => decide (p ≠ []))
theorem wordsF_yes (ps : List (List UInt8)) {x : List UInt8} (h : x ≠ []) : wordsF (ps ++ [x]) = wordsF ps ++ [x] := by simp [wordsF, h]
theorem wordsF_no (ps : List (List UInt8)) {x : List UInt8} (h : x = []) : wordsF (ps ++ [x]) = wordsF ps := by simp [wordsF, h]
theorem wordsF_len (ps : List (List UInt8)) : (wordsF ps).length ≤ ps.length := List.length_filter_le _ _

/-- What the gathering of words keeps: the box, the row (behind lo), and what was there. -/
def GathW (w : World) (lo : Nat) (pre : List (List UInt8)) (W : World) : Prop := (∃ va vn vc, Boxed W w.heap.size 29 (.slice va vn vc) ∧ W.ownsRow lo 9 1 (.slice va vn vc) (wordsF pre).length (texts (wordsF pre))) ∧ Below w.heap.size w W ∧ lo ≤ W.heap.size
theorem GathW.own {w : World} {lo : Nat} {p q : Nat → Prop} (hp : ∀ r, p r → w.heap.size < r ∧ r < lo) (hq : ∀ r, q r → w.heap.size < r) : OwnW p q (GathW w lo) := by
  rintro s A C row ⟨⟨va, vn, vc, hv, hrow⟩, hB, hlo⟩ hg hr
  have hne : ∀ r, row = some r → w.heap.size < r := fun r e => by
    rcases hr r e with h | h
    · exact (hp r h).1
    · exact hq r h.1
  refine ⟨⟨va, vn, vc, hv.kept hg (fun e => by have := hne _ e.symm; omega), hrow.kept hg ?_⟩, hB.grown hg hB.size (fun k e => Nat.le_of_lt (hne k e)), Nat.le_trans hlo hg.size⟩
  rcases hrow.2 with ⟨q0, _⟩ | ⟨g, cap, cur, q0, hlo, hgb, _⟩
  · rw [q0]; exact .inl rfl
  · rw [q0]
    refine .inr fun e' => ?_
    have eg : row = some g := by simpa [Value.ownBlock] using e'.symm
    rcases hr g eg with h | ⟨_, o, ho, hc⟩
    · have := (hp g h).2; omega
    · rw [hgb] at ho
      cases ho
      cases hc

theorem blocks4W (w : World) (o o' o2 o3 : Obj) : ((((w.alloc o).alloc o').alloc o2).alloc o3).heap[w.heap.size]? = some o ∧ ((((w.alloc o).alloc o').alloc o2).alloc o3).heap[w.heap.size + 1]? = some o' ∧ ((((w.alloc o).alloc o').alloc o2).alloc o3).heap[w.heap.size + 1 + 1]? = some o2 ∧ ((((w.alloc o).alloc o').alloc o2).alloc o3).heap[w.heap.size + 1 + 1 + 1]? = some o3 ∧ ((((w.alloc o).alloc o').alloc o2).alloc o3).heap.size = w.heap.size + 1 + 1 + 1 + 1 := by
  have s1 : ((w.alloc o).alloc o').heap.size = w.heap.size + 1 + 1 := by simp
  have s2 : (((w.alloc o).alloc o').alloc o2).heap.size = w.heap.size + 1 + 1 + 1 := by simp
  have h0 : ((w.alloc o).alloc o').heap[w.heap.size]? = some o := block_at2
  have h1 : ((w.alloc o).alloc o').heap[w.heap.size + 1]? = some o' := heap_alloc_at _ _ _ (by simp)
  have h2 : (((w.alloc o).alloc o').alloc o2).heap[w.heap.size + 1 + 1]? = some o2 := heap_alloc_at _ _ _ s1.symm
  exact ⟨(keepb (keepb h0 (below_box _)).out (below_box _)).out, (keepb (keepb h1 (below_box _)).out (below_box _)).out, (keepb h2 (below_box _)).out, heap_alloc_at _ _ _ s2.symm, by simp⟩

/-- What an append to such a row turns. -/
theorem gatherW_step {W w1 : World} {B lo k : Nat} {v v' : Value} {xs ys : List Value} {tmp : Obj} (hv : Boxed W B 29 v) (hrow : W.ownsRow lo 9 1 v k xs) (hBl : B < lo) (hlo : lo ≤ W.heap.size) (hown' : w1.ownsRow lo 9 1 v' (k + 1) ys) (hgrow : (W.alloc tmp).grownBy w1 v.ownBlock) :
    Boxed w1 B 29 v ∧ Hid (Boxed (w1.setCell ⟨B, 0, none⟩ v') B 29 v' ∧ (w1.setCell ⟨B, 0, none⟩ v').ownsRow lo 9 1 v' (k + 1) ys ∧ KeepsOthers W (w1.setCell ⟨B, 0, none⟩ v') ∧ Below B W (w1.setCell ⟨B, 0, none⟩ v') ∧ lo ≤ (w1.setCell ⟨B, 0, none⟩ v').heap.size ∧ ∀ q : Nat → Prop, (∀ j, q j → j ≠ B ∧ j < lo) → KeptB q W (w1.setCell ⟨B, 0, none⟩ v')) := by
  obtain ⟨a1, a2, a3, a4, a5⟩ := hv.appended (by decide) (Joins.ownsRow_le hrow (Nat.le_of_lt hBl)) (Nat.le_of_lt hv.lt) (Nat.le_refl _) (Joins.ownsRow_le hown' (Nat.le_of_lt hBl)) hgrow
  refine ⟨a1, a2, ownsRow_setCell_below hown' (a := ⟨B, 0, none⟩) hBl _, a4, a5, Nat.le_trans hlo a4.size, fun q hq j o hj hp => ?_⟩
  obtain ⟨h1, h2⟩ := hq j hp
  refine (Below.heap_setCell _ ⟨B, 0, none⟩ _ j h1).trans ((hgrow.block j (by have := lt_of_block hj; simp; omega) (fun e => ?_)).trans ((Below.heap_alloc _ _ _ (lt_of_block hj)).trans hj))
  have := (hrow.lt j e.symm).1
  omega

end Go.Proofs.YtlcdhhaikhieiaaDoor
