/- The iterator over a list of numbers, and those who range over it: numbers written and joined with a plus. -/
import Derived.Test.YtlacmcedpphphaaDoorRtI
import Derived.Test.YtlacmcedpphphaaDoorTtX
namespace Go.Proofs.YtlacmcedpphphaaDoor
open Go.RowKit Go.Shelf Go.Maps Go.WideMaps
attribute [local go_sem] Oper.semAt_some

set_option maxRecDepth 100000 in
set_option maxHeartbeats 2000000 in
/-- The numbers come one by one, in their order; the round is asked to keep what lay ahead. -/
theorem vals1_in {α : Type} (enc : α → Int) (F : Fence) (n : Nat) (hf : F.fn 54) (hro : F.round = none) (hn : 1 ≤ n) (lp Bs len cap : Nat) (a : Option Addr) (zs : List α) (w0 : World) (hlen : len ≤ 1048576) (hI : IAt w0 a len (zs.map enc)) (J Jx : List α → World → Prop)
    (hY : ∀ pre x W, J pre W → pre.length < len → YieldAt F (n - 1) Tryd.prog lp #[.int .i64 (enc x)] W fun e W' =>
      (e = .returned (.bool true) ∧ J (pre ++ [x]) W' ∧ Below w0.heap.size W W') ∨ (e = .returned (.bool false) ∧ Jx (pre ++ [x]) W'))
    (W : World) (hB : Below w0.heap.size w0 W) (hBs : W.cell? ⟨Bs, 0, none⟩ = some (.slice a len cap)) (h0 : J [] W) :
    CallsIn F n Tryd.prog 54 #[.func (.yield lp) #[] #[], .pointer (some ⟨Bs, 0, none⟩)] W fun e W' => (∃ v, e = .returned v) ∧
      ((∃ ys, ys = zs ∧ J ys W') ∨ (∃ pre, pre <+: zs ∧ Jx pre W')) := by
  have HI : Hid (IAt w0 a len (zs.map enc)) := hI
  have hzl : zs.length = len := by have := hI.1; simpa using this
  have HZ : Hid (zs.length = len) := hzl
  have HY : Hid (∀ pre x W, J pre W → pre.length < len → YieldAt F (n - 1) Tryd.prog lp #[.int .i64 (enc x)] W fun e W' =>
      (e = .returned (.bool true) ∧ J (pre ++ [x]) W' ∧ Below w0.heap.size W W') ∨ (e = .returned (.bool false) ∧ Jx (pre ++ [x]) W')) := hY
  clear hI hY hzl
  refine callsIn_of_wp Tryd.func54 rfl hf ?_ hro
  simp only [Tryd.ntmps54, List.size_toArray, List.length_cons, List.length_nil, Nat.reduceAdd, Nat.reduceSub, Array.replicate_succ, Array.replicate_zero, List.push_toArray, List.append_toArray, List.nil_append, List.cons_append]
  gi_wp2
  gi_loopw [7] (fun i wr => ∃ k : Nat, k ≤ len ∧ i = .int .i64 k ∧ J (zs.take k) wr ∧ Below w0.heap.size w0 wr)
    (fun i _ => len - (intOf i).toNat)
  case atStart => exact ⟨0, Nat.zero_le _, rfl, by simpa using h0, hB⟩
  case round =>
    obtain ⟨k, hk, rfl, hJs, hnx⟩ := hrel
    by_cases hlt : k < len
    · rcases HI.out.2 with h00 | ⟨b, off, ha, hb, hc⟩
      · omega
      subst ha
      obtain ⟨x, hx⟩ : ∃ x, zs[k]? = some x := ⟨_, List.getElem?_eq_getElem (by rw [HZ.out]; exact hlt)⟩
      have hcx : wr.cell? ⟨b, off + k, none⟩ = some (.int .i64 (enc x)) := by
        rw [(hnx.cell (p := ⟨b, off + k, none⟩) hb).trans (hc k hlt)]
        simp [List.getD, hx]
      obtain ⟨fn, tmps, assign, body, hy, hR⟩ := HY.out _ x wr hJs (by rw [List.length_take, HZ.out]; omega)
      have hki : (k : Int) < (len : Int) := by omega
      clear hc
      gi_wp2
      refine hR.mono ?_
      rintro e W3 (⟨rfl, hJ3, hk3⟩ | ⟨rfl, hJx3⟩)
      · gi_wp2
        go_roundw
        case rel => exact ⟨k + 1, by omega, by go_num, by rw [take_more hx]; exact hJ3, hnx.trans hk3⟩
        case measure => simp [intOf]; omega
      · gi_wp2
        refine bodyPost_ret (results_none rfl _ _ _) rfl ?_
        exact ⟨⟨_, rfl⟩, .inr ⟨_, by rw [← take_more hx]; exact List.take_prefix _ _, hJx3⟩⟩
    · obtain rfl : k = len := by omega
      gi_wp2
      go_end0
      exact ⟨⟨_, rfl⟩, .inl ⟨_, List.take_of_length_le (by rw [HZ.out]; exact Nat.le_refl _), hJs⟩⟩

/-- The iterator's contract. -/
theorem vals_stops {α : Type} (enc : α → Int) (F : Fence) (n : Nat) (hf : F.fn 54) (hro : F.round = none) (hn : 1 ≤ n) (Bs len cap : Nat) (a : Option Addr) (zs : List α) (w0 w : World) (hlen : len ≤ 1048576) (hI : IAt w0 a len (zs.map enc)) (hB : Below w0.heap.size w0 w) (hBl : Bs < w.heap.size) (hBs : w.cell? ⟨Bs, 0, none⟩ = some (.slice a len cap)) :
    SeqStopsK F n Tryd.prog 54 #[.pointer (some ⟨Bs, 0, none⟩)] (fun x : α => #[Value.int .i64 (enc x)]) (Below w0.heap.size) (fun ys => ys = zs) (fun pre => pre <+: zs) len w := fun l J Jx W hW _ _ hY h0 =>
  vals1_in enc F n hf hro hn l Bs len cap a zs w0 hlen hI J Jx hY W (hB.trans (hW.mono hB.size)) ((hW.cell (p := ⟨Bs, 0, none⟩) hBl).trans hBs) h0

theorem iValues_any (a : Option Addr) (n cap : Nat) (w : World) :
    Calls Tryd.prog 39 #[.slice a n cap] w fun e w' => e = .returned (.func (.func 54) #[] #[.pointer (some ⟨w.heap.size, 0, none⟩)]) ∧ w' = w.alloc (.cells #[.slice a n cap] 25) := by
  have hmf : ∀ (fn : Fn) (first cap : Array Value) (w : World), (Instr.makeFunc fn first cap).run Tryd.prog w = .ok (.func fn first cap) w := fun _ _ _ _ => rfl
  go_enter Tryd.func39, Tryd.ntmps39
  go_wp2
  go_ret
  exact ⟨rfl, rfl⟩

def plusTail : List Int → List UInt8
  | [] => []
  | k :: t => 43 :: (dec k ++ plusTail t)
def plusT : List Int → List UInt8
  | [] => []
  | k :: t => dec k ++ plusTail t
theorem plusTail_snoc (l : List Int) (k : Int) : plusTail (l ++ [k]) = plusTail l ++ (43 :: dec k) := by
  induction l with
  | nil => simp [plusTail]
  | cons a t ih => simp [plusTail, ih]
theorem plusT_snoc {l : List Int} (h : l ≠ []) (k : Int) : plusT (l ++ [k]) = plusT l ++ (43 :: dec k) := by
  cases l with
  | nil => exact absurd rfl h
  | cons a t => simp [plusT, plusTail_snoc]
theorem inter_plus (k : Int) (t : List Int) : List.intercalate [43] (dec k :: t.map dec) = dec k ++ plusTail t := by
  induction t generalizing k with
  | nil => simp [List.intercalate, plusTail]
  | cons a t ih =>
    have h := ih a
    have e : List.intercalate [43] (dec k :: dec a :: t.map dec) = dec k ++ ([43] ++ List.intercalate [43] (dec a :: t.map dec)) := by
      simp [List.intercalate, List.intersperse]
    rw [List.map_cons, e, h]
    simp [plusTail]
theorem join_plusT (l : List Int) : Lib.join (l.map dec) [43] = plusT l := by
  unfold Lib.join
  cases l with
  | nil => rfl
  | cons k t => exact inter_plus k t
theorem plus_tail_len {t : List Int} (hk : ∀ k ∈ t, k ≤ 999) : (plusTail t).length ≤ 11 * t.length := by
  induction t with
  | nil => simp [plusTail]
  | cons a t ih =>
    have h1 := dec_len (hk a (List.mem_cons_self ..))
    have h2 := ih fun k hk' => hk k (List.mem_cons_of_mem _ hk')
    simp [plusTail]; omega
theorem plus_len {l : List Int} (h : l.length ≤ 6) (hk : ∀ k ∈ l, k ≤ 999) : (plusT l).length ≤ 100 := by
  cases l with
  | nil => simp [plusT]
  | cons a t =>
    have h1 := dec_len (hk a (List.mem_cons_self ..))
    have h2 := plus_tail_len fun k hk' => hk k (List.mem_cons_of_mem _ hk')
    simp at h
    simp [plusT]; omega
theorem pieces_texts (l : List Int) : pieces l = texts (l.map dec) := by simp [pieces, texts]
theorem join_plus (v : Value) (W : World) {l : List Int} {n base : Nat} (hrow : W.ownsRow base 9 1 v n (pieces l)) (hn : n = l.length) (h3 : l.length ≤ 6) (hk : ∀ k ∈ l, 0 ≤ k ∧ k ≤ 999) :
    Calls Tryd.prog 24 #[v, .string ⟨#[43]⟩] W fun e w' => e = .returned (.string (str (plusT l))) ∧ Below W.heap.size W w' := by
  have := join_any 43 v W (ls := l.map dec) (by rw [← pieces_texts]; exact hrow) (by simpa using hn) (by simp; omega) (by rw [join_plusT]; have := plus_len h3 (fun k h => (hk k h).2); omega)
  rw [join_plusT] at this
  exact this

set_option maxRecDepth 100000 in
set_option maxHeartbeats 4000000 in
theorem joinPlus_any (Bs len cap : Nat) (a : Option Addr) (l : List Int) (w0 w : World) (hlen : len ≤ 6) (hk : ∀ k ∈ l, 0 ≤ k ∧ k ≤ 999) (hI : IAt w0 a len l) (hB : Below w0.heap.size w0 w) (hBl : Bs < w.heap.size) (hBs : w.cell? ⟨Bs, 0, none⟩ = some (.slice a len cap)) (hT : Tb w) :
    Calls Tryd.prog 38 #[.func (.func 54) #[] #[.pointer (some ⟨Bs, 0, none⟩)], .string ⟨#[43]⟩] w fun e w' => e = .returned (.string (str (plusT l))) ∧ Below w.heap.size w w' := by
  obtain ⟨i0, hi, hz0, hz1, hz2⟩ := info_parts Tryd.infoStr
  obtain ⟨zs, hz⟩ : ∃ zs : List Kx, zs.map Subtype.val = l := by
    clear hI
    induction l with
    | nil => exact ⟨[], rfl⟩
    | cons k t ih =>
      obtain ⟨zs, e⟩ := ih fun j hj => hk j (List.mem_cons_of_mem _ hj)
      exact ⟨⟨k, hk k (List.mem_cons_self ..)⟩ :: zs, by rw [List.map_cons, e]⟩
  obtain ⟨s0, hs0⟩ : ∃ s, s = str (plusT l) := ⟨_, rfl⟩
  rw [← hs0]
  have HS0 : Hid (s0 = str (plusT l)) := hs0
  clear hs0
  refine (callsIn_wide (n := 3)).1 ?_
  refine callsIn_of_wp_marks Tryd.func38 rfl trivial ?_ rfl
  simp only [Tryd.ntmps38, List.size_toArray, List.length_cons, List.length_nil, Nat.reduceAdd, Nat.reduceSub, Array.replicate_succ, Array.replicate_zero, List.push_toArray, List.append_toArray, List.nil_append, List.cons_append]
  gi_wp2
  have bO := Boxed.new w 52 (.slice none 0 0)
  have hB0 : Below w.heap.size w (w.alloc (.cells #[.slice none 0 0] 52)) := below_box _
  have hsz := hB.size
  refine wpIn_rangeFunc_ownG rfl (by omega) (gf := 54) (lb := #[.pointer (some ⟨Bs, 0, none⟩)]) rfl trivial (enters_of Tryd.func54 (by kernel_rfl) rfl)
    (vals_stops (fun x : Kx => x.1) Fence.wide (3 - 1) trivial rfl (by omega) Bs len cap a zs w0 _ (by omega) (by rw [hz]; exact hI) (hB.trans (hB0.mono hsz)) (by simp; omega) ((hB0.cell (p := ⟨Bs, 0, none⟩) hBl).trans hBs)) belowK_t (belowK_b (by simp; omega)) (Below.refl _ _) (fun _ => rfl)
    (fun (pre : List Kx) W => (∃ v, Boxed W w.heap.size 52 v ∧ W.ownsRow w.heap.size 9 1 v pre.length (pieces (pre.map Subtype.val)) ∧ True) ∧ Below w.heap.size w W)
    (fun _ _ _ => False)
    (OwnFrom.and (Own.from (holdsRow_own w.heap.size w.heap.size 52 9 1 (fun (pre : List Kx) => pre.length) (fun pre => pieces (pre.map Subtype.val)) (fun _ _ => True)) _) (ownFrom_below (Nat.le_refl _) (by simp)))
    (fun _ _ _ _ _ hs _ _ => hs)
    ⟨⟨_, bO, World.ownsRow_nil _ _ _ _, trivial⟩, hB0⟩
    (fun x => { tmps := #[.func (.func 54) #[] #[.pointer (some ⟨Bs, 0, none⟩)], .string ⟨#[43]⟩, undef, undef, .string ⟨#[]⟩, .pointer (some ⟨w.heap.size, 0, none⟩), .int .i64 x.1, .func (.func 54) #[] #[.pointer (some ⟨Bs, 0, none⟩)], .int .i64 x.1, undef, undef, undef, undef, undef, undef, undef, undef], defers := [] }) ?assign ?body ?done ?stop
  case assign =>
    intro l x W K hK
    gi_wp2
    exact hK
  case body =>
    rintro lp pre ⟨x, hx⟩ W ⟨⟨v, hv, hrow, _⟩, hBB⟩ hlt
    have hc := hv.cell
    have hpl : pre.length ≤ 100 := by omega
    obtain ⟨s, hs⟩ : ∃ s, s = str (dec x) := ⟨_, rfl⟩
    have hwn := writeNumber_any hx.1 hx.2 W.drew ((hT.below hBB (Nat.le_refl _)).below (Below.refl _ _).drew (Nat.le_refl _))
    rw [← hs] at hwn
    have HS : Hid (s = str (dec x)) := hs
    clear hs
    gi_wp2
    refine wpIn_region_any (by kernel_rfl) ?_
    change wpAnyIn _ _ _ _ _ _ _ _ _ (World.drew _)
    refine wpAnyIn_ready (rs := [0, 1]) (by kernel_rfl) (by simp) (AllReadyIn.cons rfl (fun K hK => ?_) (AllReadyIn.cons rfl (fun K hK => ?_) AllReadyIn.nil))
    · go_simp
      refine hK _ _ ?_
      clear hK K
      refine wpAnyIn_ready (rs := [1]) (by kernel_rfl) (by simp) (AllReadyIn.cons rfl (fun K hK => ?_) AllReadyIn.nil)
      go_simp
      refine hK _ _ ?_
      clear hK K
      refine wpAnyIn_ready (rs := [2]) (by kernel_rfl) (by simp) (AllReadyIn.cons rfl (fun K hK => ?_) AllReadyIn.nil)
      go_simp
      refine ⟨trivial, ?_⟩
      refine (CallsIn.inRound lp (callsIn_wide.2 hwn)).mono ?_
      rintro e w2 ⟨rfl, hb2⟩
      obtain ⟨g, cap', w3, hrun, ⟨hc2, hc3, hf3⟩, HP⟩ := piece_added s hv hrow ((Below.refl _ _).drew.trans hb2) hBB.size hpl
      have hc4 : ∀ o, (w2.alloc o).cell? ⟨w.heap.size, 0, none⟩ = some v := fun o => kept1 o hc2
      go_simp
      refine hK _ _ ?_
      clear hK K
      refine wpAnyIn_ready (rs := [3]) (by kernel_rfl) (by simp) (AllReadyIn.cons rfl (fun K hK => ?_) AllReadyIn.nil)
      go_simp
      refine hK _ _ ?_
      clear hK K
      refine wpAnyIn_ready (rs := [4]) (by kernel_rfl) (by simp) (AllReadyIn.cons rfl (fun K hK => ?_) AllReadyIn.nil)
      refine stepIn_append (v := v) (u := .slice (some ⟨w2.heap.size, 0, none⟩) 1 1) rfl (.tmp 9) (.tmp 12) 52 rfl rfl rfl hrun ?_
      refine hK _ _ ?_
      clear hK K
      refine wpAnyIn_ready (rs := [5]) (by kernel_rfl) (by simp) (AllReadyIn.cons rfl (fun K hK => ?_) AllReadyIn.nil)
      go_simp
      refine hK _ _ ?_
      clear hK K
      refine wpAnyIn_done (by kernel_rfl) ?_ _
      gi_wp2
      obtain ⟨e1, e2, e3, e4⟩ := HP.out
      exact ⟨e3.from _, e4.mono hsz, ⟨_, e1, by rw [piece_more, ← HS.out, List.length_append]; exact e2, trivial⟩, hBB.trans e4⟩
    · go_simp
      refine hK _ _ ?_
      clear hK K
      refine wpAnyIn_ready (rs := [0, 2]) (by kernel_rfl) (by simp) (AllReadyIn.cons rfl (fun K hK => ?_) (AllReadyIn.cons rfl (fun K hK => ?_) AllReadyIn.nil))
      · go_simp
        refine hK _ _ ?_
        clear hK K
        refine wpAnyIn_ready (rs := [2]) (by kernel_rfl) (by simp) (AllReadyIn.cons rfl (fun K hK => ?_) AllReadyIn.nil)
        go_simp
        refine ⟨trivial, ?_⟩
        refine (CallsIn.inRound lp (callsIn_wide.2 hwn)).mono ?_
        rintro e w2 ⟨rfl, hb2⟩
        obtain ⟨g, cap', w3, hrun, ⟨hc2, hc3, hf3⟩, HP⟩ := piece_added s hv hrow ((Below.refl _ _).drew.trans hb2) hBB.size hpl
        have hc4 : ∀ o, (w2.alloc o).cell? ⟨w.heap.size, 0, none⟩ = some v := fun o => kept1 o hc2
        go_simp
        refine hK _ _ ?_
        clear hK K
        refine wpAnyIn_ready (rs := [3]) (by kernel_rfl) (by simp) (AllReadyIn.cons rfl (fun K hK => ?_) AllReadyIn.nil)
        go_simp
        refine hK _ _ ?_
        clear hK K
        refine wpAnyIn_ready (rs := [4]) (by kernel_rfl) (by simp) (AllReadyIn.cons rfl (fun K hK => ?_) AllReadyIn.nil)
        refine stepIn_append (v := v) (u := .slice (some ⟨w2.heap.size, 0, none⟩) 1 1) rfl (.tmp 9) (.tmp 12) 52 rfl rfl rfl hrun ?_
        refine hK _ _ ?_
        clear hK K
        refine wpAnyIn_ready (rs := [5]) (by kernel_rfl) (by simp) (AllReadyIn.cons rfl (fun K hK => ?_) AllReadyIn.nil)
        go_simp
        refine hK _ _ ?_
        clear hK K
        refine wpAnyIn_done (by kernel_rfl) ?_ _
        gi_wp2
        obtain ⟨e1, e2, e3, e4⟩ := HP.out
        exact ⟨e3.from _, e4.mono hsz, ⟨_, e1, by rw [piece_more, ← HS.out, List.length_append]; exact e2, trivial⟩, hBB.trans e4⟩
      · go_simp
        refine ⟨trivial, ?_⟩
        refine (CallsIn.inRound lp (callsIn_wide.2 hwn)).mono ?_
        rintro e w2 ⟨rfl, hb2⟩
        obtain ⟨g, cap', w3, hrun, ⟨hc2, hc3, hf3⟩, HP⟩ := piece_added s hv hrow ((Below.refl _ _).drew.trans hb2) hBB.size hpl
        have hc4 : ∀ o, (w2.alloc o).cell? ⟨w.heap.size, 0, none⟩ = some v := fun o => kept1 o hc2
        go_simp
        refine hK _ _ ?_
        clear hK K
        refine wpAnyIn_ready (rs := [0, 3]) (by kernel_rfl) (by simp) (AllReadyIn.cons rfl (fun K hK => ?_) (AllReadyIn.cons rfl (fun K hK => ?_) AllReadyIn.nil))
        · go_simp
          refine hK _ _ ?_
          clear hK K
          refine wpAnyIn_ready (rs := [3]) (by kernel_rfl) (by simp) (AllReadyIn.cons rfl (fun K hK => ?_) AllReadyIn.nil)
          go_simp
          refine hK _ _ ?_
          clear hK K
          refine wpAnyIn_ready (rs := [4]) (by kernel_rfl) (by simp) (AllReadyIn.cons rfl (fun K hK => ?_) AllReadyIn.nil)
          refine stepIn_append (v := v) (u := .slice (some ⟨w2.heap.size, 0, none⟩) 1 1) rfl (.tmp 9) (.tmp 12) 52 rfl rfl rfl hrun ?_
          refine hK _ _ ?_
          clear hK K
          refine wpAnyIn_ready (rs := [5]) (by kernel_rfl) (by simp) (AllReadyIn.cons rfl (fun K hK => ?_) AllReadyIn.nil)
          go_simp
          refine hK _ _ ?_
          clear hK K
          refine wpAnyIn_done (by kernel_rfl) ?_ _
          gi_wp2
          obtain ⟨e1, e2, e3, e4⟩ := HP.out
          exact ⟨e3.from _, e4.mono hsz, ⟨_, e1, by rw [piece_more, ← HS.out, List.length_append]; exact e2, trivial⟩, hBB.trans e4⟩
        · go_simp
          refine hK _ _ ?_
          clear hK K
          refine wpAnyIn_ready (rs := [0]) (by kernel_rfl) (by simp) (AllReadyIn.cons rfl (fun K hK => ?_) AllReadyIn.nil)
          go_simp
          refine hK _ _ ?_
          clear hK K
          refine wpAnyIn_ready (rs := [4]) (by kernel_rfl) (by simp) (AllReadyIn.cons rfl (fun K hK => ?_) AllReadyIn.nil)
          refine stepIn_append (v := v) (u := .slice (some ⟨w2.heap.size, 0, none⟩) 1 1) rfl (.tmp 9) (.tmp 12) 52 rfl rfl rfl hrun ?_
          refine hK _ _ ?_
          clear hK K
          refine wpAnyIn_ready (rs := [5]) (by kernel_rfl) (by simp) (AllReadyIn.cons rfl (fun K hK => ?_) AllReadyIn.nil)
          go_simp
          refine hK _ _ ?_
          clear hK K
          refine wpAnyIn_done (by kernel_rfl) ?_ _
          gi_wp2
          obtain ⟨e1, e2, e3, e4⟩ := HP.out
          exact ⟨e3.from _, e4.mono hsz, ⟨_, e1, by rw [piece_more, ← HS.out, List.length_append]; exact e2, trivial⟩, hBB.trans e4⟩
  case done =>
    rintro D ys W hD rfl ⟨⟨v, hv, hrow, _⟩, hBB⟩ hK
    have hc := hv.cell
    rw [hz] at hrow
    have hj := join_plus v W hrow (by rw [← hz]; simp) (by rw [hI.1]; exact hlen) hk
    have hln : (ys.map Subtype.val).length = ys.length := by simp
    rw [← HS0.out] at hj
    gi_wp2
    refine ⟨trivial, (callsIn_wide.2 hj).mono ?_⟩
    rintro e w2 ⟨rfl, hb2⟩
    have hK2 := (hb2.block D (lt_of_block hK)).trans hK
    gi_wp2
    refine ⟨by simp, .inl ⟨_, _, rfl, run_takeDeferred hK2, ?_⟩⟩
    exact ⟨_, results_tmp rfl _ _ _, rfl, (hBB.trans (hb2.mono hBB.size)).trans (belowK_b (w := w) (Nat.le_refl _) w2 D _ _ (by simp at hD; omega) hK2 rfl rfl)⟩
  case stop =>
    rintro D c pre W _ _ h _
    exact h.elim

end Go.Proofs.YtlacmcedpphphaaDoor
