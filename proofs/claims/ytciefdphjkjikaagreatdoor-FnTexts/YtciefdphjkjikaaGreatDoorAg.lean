/- An iterator that turns a box of its own: the pieces of a text, told one by one. -/
import Derived.Test.YtciefdphjkjikaaGreatDoorNest
import Derived.Test.YtciefdphjkjikaaGreatDoorAe
import Derived.Test.YtciefdphjkjikaaGreatDoorGa
import Derived.Test.YtciefdphjkjikaaGreatDoorSh
namespace Go.Proofs.YtciefdphjkjikaaGreatDoor
open Go.RowKit Go.Shelf Go.Maps Go.WideMaps
attribute [local go_sem] Oper.semAt_some

/-- No cells, or a box of a string: what such iterators turn. -/
def Tn (o : Obj) : Prop := o.isCells = false ∨ ∃ cs fz, o = .cells cs 9 fz
/-- An invariant that abides the turn of such blocks. -/
def OwnBy {β : Type} (p : Nat → Prop) (I : β → World → Prop) : Prop := ∀ s W W' row, I s W → W.grownBy W' row → (∀ r, row = some r → p r ∧ ∃ o, W.heap[r]? = some o ∧ Tn o) → I s W'
theorem OwnBy.alloc {β : Type} {p : Nat → Prop} {I : β → World → Prop} (h : OwnBy p I) {s : β} {W : World} (o : Obj) (hs : I s W) : I s (W.alloc o) :=
  h s W _ none hs (World.grownBy_alloc W o none) (fun r e => by cases e)
theorem OwnBy.putObj {β : Type} {p : Nat → Prop} {I : β → World → Prop} (h : OwnBy p I) {s : β} {W : World} {l : Nat} {o : Obj} (o' : Obj) (hs : I s W) (hl : p l) (ho : W.heap[l]? = some o) (hn : o.isCells = false) : I s (W.putObj l o') :=
  h s W _ (some l) hs (grownBy_putObj' W l o') (fun r e => by cases e; exact ⟨hl, o, ho, .inl hn⟩)
theorem grownBy_setCell (W : World) (a : Addr) (v : Value) : W.grownBy (W.setCell a v) (some a.block) :=
  ⟨rfl, rfl, rfl, by simp, fun k _ hk => Below.heap_setCell _ a v k (fun e => hk (by rw [e]))⟩
theorem OwnBy.setCell {β : Type} {p : Nat → Prop} {I : β → World → Prop} (h : OwnBy p I) {s : β} {W : World} {a : Addr} {cs : Array Value} {fz : Nat × Nat} (v : Value) (hs : I s W) (hl : p a.block) (ho : W.heap[a.block]? = some (.cells cs 9 fz)) : I s (W.setCell a v) :=
  h s W _ _ hs (grownBy_setCell W a v) (fun r e => by cases e; exact ⟨hl, _, ho, .inr ⟨cs, fz, rfl⟩⟩)
theorem OwnBy.and {β : Type} {p : Nat → Prop} {I I' : β → World → Prop} (h : OwnBy p I) (h' : OwnBy p I') : OwnBy p (fun s W => I s W ∧ I' s W) := fun s W W' row hs hg hr => ⟨h s W W' row hs.1 hg hr, h' s W W' row hs.2 hg hr⟩

/-- No row of numbers: what they that range over such iterators leave as it was. -/
def NoInts (o : Obj) : Prop := ∀ cs fz, o ≠ .cells cs 2 fz
theorem noInts_s (cs : Array Value) (fz : Nat × Nat) : NoInts (.cells cs 9 fz) := fun _ _ e => by
  injection e with _ h _
  exact absurd h (by decide)
theorem noInts_n (cs : Array Value) (fz : Nat × Nat) : NoInts (.cells cs 3 fz) := fun _ _ e => by
  injection e with _ h _
  exact absurd h (by decide)
theorem noInts_y (cs : Array Value) (fz : Nat × Nat) : NoInts (.cells cs 91 fz) := fun _ _ e => by
  injection e with _ h _
  exact absurd h (by decide)
/-- These blocks are as they were. -/
def KeptK (p : Nat → Obj → Prop) (V V' : World) : Prop := ∀ k o, V.heap[k]? = some o → p k o → V'.heap[k]? = some o
theorem KeptK.trans {p : Nat → Obj → Prop} {A B C : World} (h : KeptK p A B) (k : KeptK p B C) : KeptK p A C := fun j o hj hp => k j o (h j o hj hp) hp
theorem KeptK.of_below {p : Nat → Obj → Prop} {A B : World} (h : Below A.heap.size A B) : KeptK p A B := fun j _ hj _ => (h.block j (lt_of_block hj)).trans hj

/-- What an iterator owes that turns blocks of its own ('own'): who ranges over it keeps an invariant that abides their turn, and in each round those blocks that it asks for ('keep') and what it has laid itself. -/
def TellsK {α : Type} (own : Nat → Prop) (keep : Nat → Obj → Prop) (g : Nat) (lb : Array Value) (encs : α → Array Value) (xs : List α) (w : World) : Prop :=
  ∀ (l : Nat) (J : List α → World → Prop) (W : World), w.heap.size ≤ W.heap.size → KeptK keep w W → OwnBy (fun r => W.heap.size ≤ r ∨ own r) J →
    (∀ pre x W1, x ∈ xs → J pre W1 → pre.length < 4000000 → YieldAt Fence.wide 0 Tryz.prog l (encs x) W1 fun e W' => e = .returned (.bool true) ∧ J (pre ++ [x]) W' ∧ KeepsOthers W1 W' ∧ KeptK (fun k o => keep k o ∨ (W.heap.size ≤ k ∧ NoInts o)) W1 W') → J [] W →
    Calls Tryz.prog g (#[.func (.yield l) #[] #[]] ++ lb) W fun e W' => (∃ v, e = .returned v) ∧ J xs W'

/-- Who ranges to the end over such an iterator. -/
theorem range_allK {α : Type} {own : Nat → Prop} {keep : Nat → Obj → Prop} {g : Operand} {ps : Array Tmp} {assign body : Code} {Q : Exit → Act → World → Prop} {a : Act} {w w0 : World} {n : Nat} (h1 : 1 ≤ n) {gf : Nat} {lb : Array Value}
    (hg : a.eval g = .func (.func gf) #[] lb) (eg : ∀ args w, (callFunc gf args).run Tryz.prog w = .ok (.enter gf args) w) {encs : α → Array Value} {xs : List α} (hT : TellsK own keep gf lb encs xs w0) (hown : ∀ r, own r → r < w.heap.size) (hkp : ∀ r o, keep r o → r < w0.heap.size) (hsw : w0.heap.size ≤ w.heap.size) (hkw : KeptK keep w0 w) (hps : ∀ x, (encs x).size = ps.size)
    (I : List α → World → Prop) (hI : OwnBy (fun r => w.heap.size ≤ r ∨ own r) I) (h0 : I [] w) (a₁ : α → Act)
    (hassign : ∀ (l : Nat) (x : α) (W : World) (K : Act → World → Prop), K (a₁ x) W →
      assign.wpIn (Fence.wide.inRound l) 1 Tryz.prog (Exit.then K (fun _ _ _ => False)) { tmps := (ps.zip (encs x)).foldl (fun t (p, v) => t.setIfInBounds p v) a.tmps, defers := [] } W)
    (hbody : ∀ (l : Nat) (pre : List α) (x : α) (W : World), x ∈ xs → I pre W → pre.length < 4000000 → body.wpIn (Fence.wide.inRound l) 1 Tryz.prog (fun e _ W' => e = .normal ∧ KeepsOthers W W' ∧ KeptK (fun k o => keep k o ∨ (w.heap.size ≤ k ∧ NoInts o)) W W' ∧ I (pre ++ [x]) W') (a₁ x) W)
    (hdone : ∀ (D : Nat) (W : World), w.heap.size ≤ D → I xs W → W.heap[D]? = some (.deferred (some [])) → Q .normal { a with defers := { target := .collected D, args := #[] } :: a.defers } W) :
    (Code.rangeFunc g ps assign body).wpIn Fence.wide n Tryz.prog Q a w := by
  refine wpIn_rangeFunc fun fn _ => ?_
  obtain ⟨rec, hrec⟩ : ∃ rec : LoopState → Loop, rec = fun st => { state := st, pending := none, fn, tmps := a.tmps, params := ps, assign, body, defers := w.heap.size } := ⟨_, rfl⟩
  obtain ⟨W1, hW1⟩ : ∃ W1, (w.alloc (.deferred (some []))).alloc (.loop (rec .ready)) = W1 := ⟨_, rfl⟩
  have hsz : W1.heap.size = w.heap.size + 2 := by rw [← hW1]; simp
  have hL1 : W1.heap[w.heap.size + 1]? = some (.loop (rec .ready)) := by
    rw [← hW1]; have := World.alloc_heap_new (w.alloc (.deferred (some []))) (.loop (rec .ready)); rwa [World.size_alloc] at this
  have hK1 : W1.heap[w.heap.size]? = some (.deferred (some [])) := by
    rw [← hW1]; exact (Below.heap_alloc _ _ _ (by simp)).trans (World.alloc_heap_new w _)
  have hI1 : I [] W1 := by rw [← hW1]; exact hI.alloc _ (hI.alloc _ h0)
  have hb1 : Below w.heap.size w W1 := by rw [← hW1]; exact below_box2 _ _
  have hkW : KeptK keep w0 W1 := hkw.trans (fun j o hj hp => (hb1.block j (Nat.lt_of_lt_of_le (hkp j o hp) hsw)).trans hj)
  refine ⟨w.heap.size + 1, [{ target := .collected w.heap.size, args := #[] }], W1, { target := .fn (.func gf) lb, args := #[.func (.yield (w.heap.size + 1)) #[] #[]] }, W1, gf,
    #[.func (.yield (w.heap.size + 1)) #[] #[]] ++ lb, W1, ?_, ?_, ?_, ?_, fun _ => h1, ?_⟩
  · rw [← hW1, hrec]; exact run_enterLoop_outer _ _ _ _ _
  · simp only [resolve, hg]
    simp [go_sem]
  · intro f' _; trivial
  · simp [invoke, go_sem, eg]
  refine (callsIn_wide.2 (hT (w.heap.size + 1) (fun pre W => I pre W ∧ W.heap[w.heap.size + 1]? = some (.loop (rec .ready)) ∧ W.heap[w.heap.size]? = some (.deferred (some []))) W1 (by omega) hkW ?_ ?_ ⟨hI1, hL1, hK1⟩)).mono ?_
  · rintro s A C row ⟨hi, hl, hk⟩ hgr hrow
    have hne : ∀ j, j < w.heap.size + 2 → w.heap.size ≤ j → j < A.heap.size → C.heap[j]? = A.heap[j]? := fun j hj hj2 hjA => hgr.block j hjA (fun e => by
      rcases (hrow j e.symm).1 with q | q
      · omega
      · have := hown j q; omega)
    refine ⟨hI s A C row hi hgr (fun r e => ⟨by
      rcases (hrow r e).1 with q | q
      · exact .inl (by omega)
      · exact .inr q, (hrow r e).2⟩), (hne _ (by omega) (by omega) (lt_of_block hl)).trans hl, (hne _ (by omega) (by omega) (lt_of_block hk)).trans hk⟩
  · rintro pre x W hx ⟨hi, hl, hk⟩ hlen
    have hlt := lt_of_block hl
    have hy := run_yield (P := Tryz.prog) (args := encs x) hl (by rw [hrec]; exact hps x)
    rw [hrec] at hy
    refine ⟨fn, _, assign, body, hy, round_any (n := 1) (roundIn_of_wpIn trivial (hassign _ x W _ ⟨_, run_beginRound hl (by rw [hrec]), ?_⟩))⟩
    obtain ⟨Wb, hWb⟩ : ∃ Wb, W.putObj (w.heap.size + 1) (.loop (rec .busy)) = Wb := ⟨_, rfl⟩
    have eb : W.putObj (w.heap.size + 1) (.loop { rec .ready with state := .busy }) = Wb := by rw [← hWb, hrec]
    rw [eb]
    have hl2 : Wb.heap[w.heap.size + 1]? = some (.loop (rec .busy)) := by rw [← hWb]; exact World.putObj_heap_same hlt
    have hsb : Wb.heap.size = W.heap.size := by rw [← hWb]; simp
    have hob : ∀ k, k ≠ w.heap.size + 1 → Wb.heap[k]? = W.heap[k]? := fun k hk => by rw [← hWb]; exact World.putObj_heap_other hk
    have hib : I pre Wb := by rw [← hWb]; exact hI.putObj _ hi (.inl (by omega)) hl rfl
    refine wpIn_mono (hbody _ pre x _ hx hib hlen) ?_
    rintro e a3 W3 ⟨rfl, hk3, hs3, hi3⟩
    have hl3 := hk3.same _ _ hl2 rfl
    have hr := run_endRound (P := Tryz.prog) none hl3
    have ee : W3.putObj (w.heap.size + 1) (.loop { rec .busy with state := if (none : Option Code).isNone then .ready else .done, pending := none }) = W3.putObj (w.heap.size + 1) (.loop (rec .ready)) := by rw [hrec]; rfl
    rw [ee] at hr
    have hof : ∀ k, k ≠ w.heap.size + 1 → (W3.putObj (w.heap.size + 1) (.loop (rec .ready))).heap[k]? = W3.heap[k]? := fun k hk => World.putObj_heap_other hk
    refine ⟨_, _, hr, rfl, ⟨hI.putObj _ hi3 (.inl (by omega)) hl3 rfl, World.putObj_heap_same (lt_of_block hl3), ?_⟩, ⟨?_, ?_⟩, ?_⟩
    · have h2 : Wb.heap[w.heap.size]? = some (.deferred (some [])) := (hob _ (by omega)).trans hk
      exact (hof _ (by omega)).trans (hk3.same _ _ h2 rfl)
    · have := hk3.size
      simp
      omega
    · intro k o hk' ho
      by_cases e : k = w.heap.size + 1
      · subst e
        rw [hl] at hk'
        cases hk'
        exact World.putObj_heap_same (lt_of_block hl3)
      · exact (hof k e).trans (hk3.same _ _ ((hob k e).trans hk') ho)
    · intro k o hko hk'
      have hne : k ≠ w.heap.size + 1 := by
        rcases hk' with q | q
        · have := hkp k o q; omega
        · have := q.1; omega
      refine (hof k hne).trans (hs3 k o ((hob k hne).trans hko) ?_)
      rcases hk' with q | q
      · exact .inl q
      · exact .inr ⟨by have := q.1; omega, q.2⟩
  · rintro e W2 ⟨⟨v, rfl⟩, hi, hl, hk⟩
    have hend := run_endLoop (P := Tryz.prog) hl (by rw [hrec]; simp)
    have hp : (rec .ready).pending = none := by rw [hrec]
    rw [hp] at hend
    exact ⟨none, _, hend, hdone w.heap.size _ (Nat.le_refl _) (hI.putObj _ hi (.inl (by omega)) hl rfl) ((World.putObj_heap_other (by omega)).trans hk)⟩

theorem mem_first {c : UInt8} : ∀ {r : List UInt8}, c ∈ r → ∃ a b, r = a ++ c :: b ∧ c ∉ a
  | [], h => by cases h
  | x :: t, h => by
    by_cases e : x = c
    · exact ⟨[], t, by rw [e]; rfl, by simp⟩
    · rcases List.mem_cons.1 h with h | h
      · exact absurd h.symm e
      · obtain ⟨a, b, h1, h2⟩ := mem_first h
        exact ⟨x :: a, b, by rw [h1]; rfl, fun q => by
          rcases List.mem_cons.1 q with q | q
          · exact e q.symm
          · exact h2 q⟩
/-- How much is left to be told. -/
def leftS (b : Nat) (W : World) : Nat := match W.cell? ⟨b, 0, none⟩ with
  | some (.string s) => s.size
  | _ => 0
/-- In the midst of the telling. -/
structure SpI (wr : World) (b0 b1 b2 : Nat) (c : UInt8) (t : List UInt8) (J : List (List UInt8) → World → Prop) (r : List UInt8) (pre : List (List UInt8)) : Prop where
  box : wr.heap[b0]? = some (.cells #[.string (str r)] 9 (0, 0))
  sep : wr.heap[b1]? = some (.cells #[.string ⟨#[c]⟩] 9 (0, 0))
  sav : wr.heap[b2]? = some (.cells #[.int .i64 0] 3 (0, 0))
  cut : cutL c t = pre ++ cutL c r
  inv : J pre wr
  few : pre.length + r.length ≤ t.length
theorem SpI.left {wr : World} {b0 b1 b2 : Nat} {c : UInt8} {t : List UInt8} {J : List (List UInt8) → World → Prop} {r : List UInt8} {pre : List (List UInt8)} (h : SpI wr b0 b1 b2 c t J r pre) : leftS b0 wr = r.length := by
  unfold leftS World.cell?
  rw [h.box]
  show (str r).size = r.length
  show r.toArray.size = _
  simp
theorem left_set {W : World} {b0 : Nat} {r : List UInt8} (b : List UInt8) (h : W.heap[b0]? = some (.cells #[.string (str r)] 9 (0, 0))) : leftS b0 (W.setCell ⟨b0, 0, none⟩ (.string (str b))) = b.length := by
  have h1 := Joins.block_setCell (i := 0) h (.string (str b))
  unfold leftS World.cell?
  rw [h1]
  show (str b).size = b.length
  show b.toArray.size = _
  simp
theorem size_str (r : List UInt8) : (str r).size = r.length := by show r.toArray.size = _; simp

set_option maxRecDepth 100000 in
set_option maxHeartbeats 4000000 in
theorem split_tells (b0 b1 b2 : Nat) (c : UInt8) (t : List UInt8) (w0 : World) (ht : t.length ≤ 1048576) (h0 : w0.heap[b0]? = some (.cells #[.string (str t)] 9 (0, 0))) (h1 : w0.heap[b1]? = some (.cells #[.string ⟨#[c]⟩] 9 (0, 0))) (h2 : w0.heap[b2]? = some (.cells #[.int .i64 0] 3 (0, 0))) (h01 : b0 ≠ b1) (h02 : b0 ≠ b2) :
    TellsK (fun r => r = b0) (fun r o => (r = b0 ∨ r = b1 ∨ r = b2) ∧ NoInts o) 115 #[.pointer (some ⟨b1, 0, none⟩), .pointer (some ⟨b0, 0, none⟩), .pointer (some ⟨b2, 0, none⟩)] (fun s : List UInt8 => #[Value.string (str s)]) (cutL c t) w0 := by
  intro lp J W hsW hkW hJ hY hJ0
  have HY := show Hid (∀ pre x W1, x ∈ cutL c t → J pre W1 → pre.length < 4000000 → YieldAt Fence.wide 0 Tryz.prog lp #[Value.string (str x)] W1 fun e W' => e = .returned (.bool true) ∧ J (pre ++ [x]) W' ∧ KeepsOthers W1 W' ∧ KeptK (fun k o => ((k = b0 ∨ k = b1 ∨ k = b2) ∧ NoInts o) ∨ (W.heap.size ≤ k ∧ NoInts o)) W1 W') from hY
  have HJ : Hid (OwnBy (fun r => W.heap.size ≤ r ∨ r = b0) J) := hJ
  have HI0 : Hid (SpI W b0 b1 b2 c t J t []) := ⟨hkW b0 _ h0 ⟨.inl rfl, noInts_s _ _⟩, hkW b1 _ h1 ⟨.inr (.inl rfl), noInts_s _ _⟩, hkW b2 _ h2 ⟨.inr (.inr rfl), noInts_n _ _⟩, rfl, hJ0, by simp⟩
  have s1 : W.cell? ⟨b1, 0, none⟩ = some (.string ⟨#[c]⟩) := by unfold World.cell?; rw [HI0.out.sep]; rfl
  clear hY hJ hJ0 h0 h1 h2 hkW
  refine (callsIn_wide (n := 3)).1 ?_
  show CallsIn Fence.wide 3 Tryz.prog 115 #[.func (.yield lp) #[] #[], .pointer (some ⟨b1, 0, none⟩), .pointer (some ⟨b0, 0, none⟩), .pointer (some ⟨b2, 0, none⟩)] W _
  refine callsIn_of_wp Tryz.func115 rfl trivial ?_ rfl
  simp only [Tryz.ntmps115, List.size_toArray, List.length_cons, List.length_nil, Nat.reduceAdd, Nat.reduceSub, Array.replicate_succ, Array.replicate_zero, List.push_toArray, List.append_toArray, List.nil_append, List.cons_append]
  gi_wp2
  gi_loopw [7] (fun _ wr => Hid (∃ r pre, SpI wr b0 b1 b2 c t J r pre)) (fun _ wr => leftS b0 wr)
  case atStart => exact ⟨t, [], HI0.out⟩
  case round =>
    obtain ⟨r, pre, hS⟩ := (show Hid (∃ r pre, SpI wr b0 b1 b2 c t J r pre) from hrel).out
    have c0 : wr.cell? ⟨b0, 0, none⟩ = some (.string (str r)) := by unfold World.cell?; rw [hS.box]; rfl
    have c1 : wr.cell? ⟨b1, 0, none⟩ = some (.string ⟨#[c]⟩) := by unfold World.cell?; rw [hS.sep]; rfl
    have c2 : wr.cell? ⟨b2, 0, none⟩ = some (.int .i64 0) := by unfold World.cell?; rw [hS.sav]; rfl
    have hix := Tryz.strings_Index_one (str r) c wr
    have er : (str r).data.toList = r := by simp [str]
    rw [er, ← Lib.index_one] at hix
    have HS : Hid (SpI wr b0 b1 b2 c t J r pre) := hS
    have hfew := hS.few
    clear hS er
    by_cases hc : c ∈ r
    · obtain ⟨a, b, hab, ha⟩ := mem_first hc
      have hi : Lib.index r [c] = a.length := by
        have := index_at (tl := []) (r := b) ha
        rw [hab]
        simpa using this
      rw [hi] at hix
      have hlen : r.length = a.length + 1 + b.length := by rw [hab]; simp; omega
      have x1 : (str r).extract 0 a.length = str a := by rw [str_cut, hab]; simp
      have x2 : (str r).extract (a.length + 1) r.length = str b := by
        rw [str_cut, hab]
        simp
        rw [show a.length + (b.length + 1) - (a.length + 1) = b.length by omega, List.take_length]
      obtain ⟨fn, tmps, assign, body, hy, hR⟩ := HY.out _ a wr (by rw [HS.out.cut, hab, cutL_at ha]; simp) HS.out.inv (by omega)
      have hR' := round_any (m := 2) hR
      have hsz := size_str r
      have hw0 : IntKind.i64.wrap (a.length : Int) = (a.length : Int) := IntWalk.i64_in _ (by omega)
      have hw1 : IntKind.i64.wrap ((a.length : Int) + 1) = (a.length : Int) + 1 := IntWalk.i64_in _ (by omega)
      have hneg : ¬ (a.length : Int) < 0 := by omega
      have HCUT : Hid (cutL c t = (pre ++ [a]) ++ cutL c b) := by show _ = _; rw [HS.out.cut, hab, cutL_at ha]; simp
      have HX2 : Hid ((str r).extract (a.length + 1) r.length = str b) := x2
      have HLEN : Hid (r.length = a.length + 1 + b.length) := hlen
      have hal : a.length + 1 ≤ r.length := by omega
      clear hlen hi hab ha hc hR
      gi_wp2_with (first | (refine ⟨trivial, ?_⟩; gi_at_call 92; refine (callsIn_wide.2 hix).mono ?_; rintro e w' ⟨rfl, hw'⟩; have hw2 := hw'.symm; subst hw2))
      refine hR'.mono ?_
      rintro e W3 ⟨rfl, hJ3, hk3, hs3⟩
      have d0 : W3.heap[b0]? = some (.cells #[.string (str r)] 9 (0, 0)) := hs3 b0 _ HS.out.box (.inl ⟨.inl rfl, noInts_s _ _⟩)
      have d1 : W3.heap[b1]? = some (.cells #[.string ⟨#[c]⟩] 9 (0, 0)) := hs3 b1 _ HS.out.sep (.inl ⟨.inr (.inl rfl), noInts_s _ _⟩)
      have d2 : W3.heap[b2]? = some (.cells #[.int .i64 0] 3 (0, 0)) := hs3 b2 _ HS.out.sav (.inl ⟨.inr (.inr rfl), noInts_n _ _⟩)
      have e0 : W3.cell? ⟨b0, 0, none⟩ = some (.string (str r)) := by unfold World.cell?; rw [d0]; rfl
      have e1 : W3.cell? ⟨b1, 0, none⟩ = some (.string ⟨#[c]⟩) := by unfold World.cell?; rw [d1]; rfl
      have g0 := Joins.unfrozen_of_block d0 0
      have HD0 : Hid (W3.heap[b0]? = some (.cells #[.string (str r)] 9 (0, 0))) := d0
      have HD1 : Hid (W3.heap[b1]? = some (.cells #[.string ⟨#[c]⟩] 9 (0, 0))) := d1
      have HD2 : Hid (W3.heap[b2]? = some (.cells #[.int .i64 0] 3 (0, 0))) := d2
      have HJ3 : Hid (J (pre ++ [a]) W3) := hJ3
      clear d0 d1 d2 hJ3 c0 c1 c2 hy hk3 hs3
      gi_wp2
      go_roundw
      case rel =>
        refine ⟨b, pre ++ [a], ?_, (Below.heap_setCell _ ⟨b0, 0, none⟩ _ b1 (Ne.symm h01)).trans HD1.out, (Below.heap_setCell _ ⟨b0, 0, none⟩ _ b2 (Ne.symm h02)).trans HD2.out, HCUT.out, HJ.out.setCell _ HJ3.out (.inr rfl) HD0.out, ?_⟩
        · have := Joins.block_setCell (i := 0) HD0.out (.string ((str r).extract (a.length + 1) r.length))
          rw [HX2.out] at this
          simpa [HX2.out] using this
        · have := HLEN.out; simp; omega
      case measure => rw [left_set b HD0.out, HS.out.left]; have := HLEN.out; omega
    · have hi : Lib.index r [c] = -1 := index_no hc
      rw [hi] at hix
      obtain ⟨fn, tmps, assign, body, hy, hR⟩ := HY.out _ r wr (by rw [HS.out.cut, cutL_one hc]; simp) HS.out.inv (by omega)
      have hR' := round_any (m := 2) hR
      have HCUT : Hid (cutL c t = pre ++ [r]) := by show _ = _; rw [HS.out.cut, cutL_one hc]
      clear hR hi hc
      gi_wp2_with (first | (refine ⟨trivial, ?_⟩; gi_at_call 92; refine (callsIn_wide.2 hix).mono ?_; rintro e w' ⟨rfl, hw'⟩; have hw2 := hw'.symm; subst hw2))
      refine hR'.mono ?_
      rintro e W3 ⟨rfl, hJ3, hk3, hs3⟩
      gi_wp2
      go_end0
      exact ⟨⟨_, rfl⟩, by rw [HCUT.out]; exact hJ3⟩

theorem splitSeq_any (s p : ByteArray) (w : World) :
    Calls Tryz.prog 101 #[.string s, .string p, .int .i64 0] w fun e w' => e = .returned (.func (.func 115) #[] #[.pointer (some ⟨w.heap.size + 1, 0, none⟩), .pointer (some ⟨w.heap.size, 0, none⟩), .pointer (some ⟨w.heap.size + 1 + 1, 0, none⟩)]) ∧ w' = (((w.alloc (.cells #[.string s] 9)).alloc (.cells #[.string p] 9)).alloc (.cells #[.int .i64 0] 3)) := by
  have hmf : ∀ (fn : Fn) (first cap : Array Value) (w : World), (Instr.makeFunc fn first cap).run Tryz.prog w = .ok (.func fn first cap) w := fun _ _ _ _ => rfl
  go_enter Tryz.func101, Tryz.ntmps101
  go_wp2
  go_ret
  exact ⟨rfl, rfl⟩
theorem SplitSeq_any (s p : ByteArray) (w : World) :
    Calls Tryz.prog 87 #[.string s, .string p] w fun e w' => e = .returned (.func (.func 115) #[] #[.pointer (some ⟨w.heap.size + 1, 0, none⟩), .pointer (some ⟨w.heap.size, 0, none⟩), .pointer (some ⟨w.heap.size + 1 + 1, 0, none⟩)]) ∧ w' = (((w.alloc (.cells #[.string s] 9)).alloc (.cells #[.string p] 9)).alloc (.cells #[.int .i64 0] 3)) := by
  have h := splitSeq_any s p w
  go_enter Tryz.func87, Tryz.ntmps87
  go_wp2_with (first | (go_at_call 101; (with_reducible refine h.mono ?_); clear h; rintro e w2 ⟨rfl, rfl⟩))
  go_ret
  exact ⟨rfl, rfl⟩

end Go.Proofs.YtciefdphjkjikaaGreatDoor
