/- The specification's readers: underscores swapped, refs told by a word; a transaction under way. -/
import Derived.Test.YtciefdphjkjikaaGreatDoorBg
import Derived.Test.YtciefdphjkjikaaGreatDoorJn3
import Derived.Test.YtciefdphjkjikaaGreatDoorAk
namespace Go.Proofs.YtciefdphjkjikaaGreatDoor
open Go.RowKit Go.Shelf Go.Maps Go.WideMaps

structure SwQt (w wr : World) (t : List UInt8) (k : Nat) : Prop where
  bel : Below w.heap.size w wr
  c : ∀ j, j < t.length → wr.cell? ⟨w.heap.size, j, none⟩ = some (.int .u8 (if j < k then swq (t.getD j 0) else t.getD j 0).toNat)
  f : ∀ j, j < t.length → wr.frozen? ⟨w.heap.size, j, none⟩ = false

theorem SwQt.start (w : World) (t : List UInt8) : SwQt w (Lib.bytesWorld w 5 (str t)) t 0 := by
  refine ⟨bytes_below _ _ _, fun j hj => ?_, fun j hj => ?_⟩
  · have := Lib.bytesWorld_cell w 5 (str t) j hj
    simpa [str] using this
  · have hs : t.length ≤ (Lib.bytesCells w 5 (str t)).size := by simp [Lib.bytesCells, str]
    unfold World.frozen?
    rw [Lib.bytesWorld_at_new]
    simp
    omega
theorem SwQt.same {w wr : World} {t : List UInt8} {k : Nat} (h : SwQt w wr t k) (hs : swq (t.getD k 0) = t.getD k 0) : SwQt w wr t (k + 1) := by
  refine ⟨h.bel, fun j hj => ?_, h.f⟩
  rw [h.c j hj]
  by_cases e : j = k
  · subst e; simp only [Nat.lt_irrefl, if_false, Nat.lt_succ_self, if_true, hs]
  · by_cases e2 : j < k
    · rw [if_pos e2, if_pos (by omega)]
    · rw [if_neg e2, if_neg (by omega)]
theorem SwQt.set {w wr : World} {t : List UInt8} {k : Nat} (h : SwQt w wr t k) (hk : k < t.length) (hs : swq (t.getD k 0) = 32) : SwQt w (wr.setCell ⟨w.heap.size, k, none⟩ (.int .u8 32)) t (k + 1) := by
  refine ⟨h.bel.setCell (p := ⟨w.heap.size, k, none⟩) (Nat.le_refl _) _, fun j hj => ?_, fun j hj => by rw [World.frozen?_setCell]; exact h.f j hj⟩
  by_cases e : j = k
  · subst e
    rw [World.cell?_setCell_same _ _ _ (h.c j hj), if_pos (Nat.lt_succ_self _), hs]
    rfl
  · rw [World.cell?_setCell_other _ _ _ _ (by intro e2; cases e2; exact e rfl), h.c j hj]
    by_cases e2 : j < k
    · rw [if_pos e2, if_pos (by omega)]
    · rw [if_neg e2, if_neg (by omega)]
theorem SwQt.conv {w wr : World} {t : List UInt8} {k cap : Nat} (h : SwQt w wr t k) (hk : ¬ k < t.length) : (convert 22 9 (.slice (some ⟨w.heap.size, 0, none⟩) t.length cap)).run Tryz.prog wr = .ok (.string (str (t.map swq))) wr := by
  have := run_convert_bytes_arg wr 22 5 Tryz.underlying22 Tryz.underlying5 w.heap.size 0 t.length cap ((t.map swq).map fun b => (b.toNat : Int)) (by simp) (fun i hi => by
    have e := h.c i hi
    rw [if_pos (by omega)] at e
    simpa [List.getD, hi] using e) 9 Tryz.underlying9
  rw [this]
  have e : strOfNums ((t.map swq).map fun b => (b.toNat : Int)) = str (t.map swq) := by
    simp [strOfNums, str, Function.comp_def]
  rw [e]

set_option maxRecDepth 20000 in
set_option maxHeartbeats 1048576 in
theorem l3SwapQ_any (t : List UInt8) (w : World) (ht : t.length ≤ 1048576) : Calls Tryz.prog 39 #[.string (str t), .int .u8 95, .int .u8 32] w fun e w' => e = .returned (.string (str (t.map swq))) ∧ Below w.heap.size w w' := by
  obtain ⟨cap, hcap⟩ : ∃ c, c = grownCap w (str t).size 0 5 := ⟨_, rfl⟩
  obtain ⟨W0, hW0⟩ : ∃ W0, W0 = Lib.bytesWorld w 5 (str t) := ⟨_, rfl⟩
  have hcv := Lib.run_convert_string_bytes w 9 22 5 (str t) Tryz.underlying9 Tryz.underlying22 Tryz.underlying5
  have h0 := SwQt.start w t
  rw [← hcap, ← hW0] at hcv
  rw [← hW0] at h0
  have HS0 : Hid (SwQt w W0 t 0) := h0
  obtain ⟨n, hn⟩ : ∃ n, n = t.length := ⟨_, rfl⟩
  have hsz : (str t).size = n := hn.symm
  rw [hsz] at hcv
  have HN : Hid (n = t.length) := hn
  obtain ⟨r, hr⟩ : ∃ r, r = t.map swq := ⟨_, rfl⟩
  have HR : Hid (r = t.map swq) := hr
  rw [← hr]
  have hnb : n ≤ 1048576 := by omega
  clear hcap hW0 h0 hn hr hsz ht
  go_enter Tryz.func39, Tryz.ntmps39
  go_wp2
  go_loopw [8] (fun i wr => ∃ j : Nat, j ≤ n ∧ i = .int .i64 j ∧ Hid (SwQt w wr t j)) (fun i _ => n - (intOf i).toNat)
  case atStart => exact ⟨0, Nat.zero_le _, rfl, HS0⟩
  case round =>
    obtain ⟨j, hj, rfl, HS⟩ := hrel
    by_cases hlt : j < n
    · have hl2 : j < t.length := by rw [← HN.out]; exact hlt
      have hc := HS.out.c j hl2
      have hf := HS.out.f j hl2
      rw [if_neg (Nat.lt_irrefl _)] at hc
      obtain ⟨ch, hch⟩ : ∃ c, c = t.getD j 0 := ⟨_, rfl⟩
      rw [← hch] at hc
      have HCH : Hid (ch = t.getD j 0) := hch
      have HL2 : Hid (j < t.length) := hl2
      clear hch hl2
      have hki : (j : Int) < (n : Int) := by omega
      by_cases h32 : ch = 95
      · subst h32
        have HS2 := show Hid (SwQt w _ t (j + 1)) from HS.out.set HL2.out (by rw [← HCH.out]; rfl)
        have hc2 : wr.cell? ⟨w.heap.size, j, none⟩ = some (.int .u8 95) := hc
        clear hc
        go_wp2
        go_roundw
        case rel => exact ⟨j + 1, by omega, by go_num, HS2⟩
        case measure => simp [intOf]; omega
      · have HS2 := show Hid (SwQt w _ t (j + 1)) from HS.out.same (by rw [← HCH.out]; simp [swq, h32])
        have hne : ((ch.toNat : Int) == 95) = false := by
          have : ch.toNat ≠ 95 := fun e => h32 (UInt8.toNat_inj.1 e)
          simp; omega
        go_wp2
        go_roundw
        case rel => exact ⟨j + 1, by omega, by go_num, HS2⟩
        case measure => simp [intOf]; omega
    · have hcb := HS.out.conv (cap := cap) (by rw [← HN.out]; exact hlt)
      rw [← HN.out, ← HR.out] at hcb
      have HB : Hid (Below w.heap.size w wr) := HS.out.bel
      go_wp2
      go_ret
      exact ⟨rfl, HB.out⟩

theorem cutL_sum (c : UInt8) (t : List UInt8) : ∀ x ∈ cutL c t, x.length + (cutL c t).length ≤ t.length + 1 := by
  induction t with
  | nil => intro x hx; simp [cutL] at hx; rw [hx]; simp [cutL]
  | cons b t ih =>
    intro x hx
    unfold cutL at hx ⊢
    by_cases h : b = c
    · rw [if_pos h] at hx ⊢
      have hl := cutL_len c t
      rcases List.mem_cons.1 hx with rfl | hx
      · simp; omega
      · have := ih x hx; simp; omega
    · rw [if_neg h] at hx ⊢
      cases e : cutL c t with
      | nil => exact absurd e (cutL_ne c t)
      | cons y r =>
        rw [e] at hx ih
        simp only at hx ⊢
        rcases List.mem_cons.1 hx with rfl | hx
        · have := ih y (by simp); simp at this ⊢; omega
        · have := ih x (by simp [hx]); simp at this ⊢; omega
theorem cut_two {c : UInt8} {t : List UInt8} (h : (cutL c t).length = 2) : ∃ a b, cutL c t = [a, b] := by
  match e : cutL c t, h with
  | [a, b], _ => exact ⟨a, b, rfl⟩
theorem sref_no {p : List UInt8} (h : (cutL 58 p).length ≠ 2) : sref p = none := by
  unfold sref
  split
  · rename_i e; rw [e] at h; simp at h
  · rfl
theorem sref_two {p a b : List UInt8} (h : cutL 58 p = [a, b]) : sref p = if (numR a 2).2 = true ∧ (numR b 1).2 = true then some ((numR a 2).1, (numR b 1).1) else none := by
  unfold sref; rw [h]
theorem sout_no {p : List UInt8} (h : (cutL 61 p).length ≠ 2) : sout p = none := by
  unfold sout
  split
  · rename_i e; rw [e] at h; simp at h
  · rfl
theorem sout_two {p a b : List UInt8} (h : cutL 61 p = [a, b]) : sout p = if (numR a 7).2 = true ∧ (parU (b.map swq)).2 = true then some ⟨(numR a 7).1, (parU (b.map swq)).1.1, (parU (b.map swq)).1.2.1, (parU (b.map swq)).1.2.2⟩ else none := by
  unfold sout; rw [h]
theorem sout_few {p : List UInt8} {q : Ou} (h : sout p = some q) : q.l.length ≤ 3 := by
  unfold sout at h
  split at h
  · split at h
    · rename_i hc
      simp only [Option.some.injEq] at h
      have h1 := (parU_sound hc.2).1
      obtain ⟨⟨_, h3⟩, _⟩ := ruleR_zero rfl h1
      rw [← h]
      exact h3
    · cases h
  · cases h
theorem row_two {w : World} {base g vc : Nat} {w0 w1 : List UInt8} (h : w.ownsRow base 9 1 (.slice (some ⟨g, 0, none⟩) 2 vc) 2 (texts [w0, w1])) : w.cell? ⟨g, 0, none⟩ = some (.string (str w0)) ∧ w.cell? ⟨g, 1, none⟩ = some (.string (str w1)) :=
  ⟨(h.cellAt 0 (by omega)).trans rfl, (h.cellAt 1 (by omega)).trans rfl⟩
theorem row_at {w : World} {base g vc N : Nat} {ls : List (List UInt8)} (h : w.ownsRow base 9 1 (.slice (some ⟨g, 0, none⟩) N vc) N (texts ls)) (hN : ls.length = N) {j : Nat} (hj : j < N) : w.cell? ⟨g, j, none⟩ = some (.string (str (ls.getD j []))) := by
  rw [h.cellAt j (by omega)]
  simp [texts, List.getD, show j < ls.length by omega]
/-- A ref more. -/
theorem refS_added {W : World} {lo j : Nat} {v : Value} {xs : List Value} (r1 r2 : Int) (h : W.ownsRow lo 65 2 v j xs) (hj : j ≤ 4000000) (hlo : lo ≤ W.heap.size) :
    ∃ g cap w5, (Builtin.append_ #[25, 25] 25 #[v, .slice (some ⟨W.heap.size, 0, none⟩) 1 1]).run Tryz.prog (W.alloc (.cells #[.int .i64 r1, .int .i64 r2] 65)) = .ok (.slice (some ⟨g, 0, none⟩) (j + 1) cap) w5 ∧
      Hid (w5.ownsRow lo 65 2 (.slice (some ⟨g, 0, none⟩) (j + 1) cap) (j + 1) (xs ++ [.int .i64 r1, .int .i64 r2]) ∧ Below lo W w5 ∧ ∀ z d zs, W.ownsRow lo 9 1 z d zs → w5.ownsRow lo 9 1 z d zs) := by
  obtain ⟨i0, hi, hz0, hz1, hz2⟩ := info_parts Tryz.infoRef
  obtain ⟨v', w5, hrun, hown', hgrow, hsome⟩ := run_append_own (P := Tryz.prog) (W.alloc (.cells #[.int .i64 r1, .int .i64 r2] 65)) lo 25 25 65 i0 (.agg #[.int .i64 0, .int .i64 0]) 2 16 Tryz.underlying25 hi hz0 hz1 hz2 rfl (by decide) v j xs (h.alloc _) ⟨W.heap.size, 0, none⟩ 1 1 [.int .i64 r1, .int .i64 r2] rfl (World.news_of_block (heap_alloc_new _ _)) (by simp [Value.oneCell']) (by unfold maxLen; omega) (by omega) (by simp; omega)
  obtain ⟨g, cap, rfl⟩ := ownsRow_succ hown'
  refine ⟨g, cap, w5, hrun, hown', ((below_box _).mono hlo).grown hgrow (by simp; omega) (fun k hk => (h.lt k hk).1), fun z d zs hz => (hz.alloc _).kept hgrow (by
    cases e : z.ownBlock with
    | none => exact .inl rfl
    | some b => exact .inr fun e2 => rows_apart (by decide) h hz b e2.symm e)⟩
/-- What l3Ins leaves. -/
def OutIn (w w' : World) (e : Ending) (p : List UInt8) : Prop := Below w.heap.size w w' ∧ ((∃ rs g c, mapO sref (cutL 43 p) = some rs ∧ e = .returned (.tuple #[.slice (some ⟨g, 0, none⟩) rs.length c, .bool true]) ∧ w'.ownsRow w.heap.size 65 2 (.slice (some ⟨g, 0, none⟩) rs.length c) rs.length (gcells rs)) ∨ (mapO sref (cutL 43 p) = none ∧ e = .returned (.tuple #[.slice none 0 0, .bool false])))
theorem take_nextP {l : List (List UInt8)} {j : Nat} (h : j < l.length) : l.take (j + 1) = l.take j ++ [l.getD j []] := by
  rw [List.take_add_one, List.getD, List.getElem?_eq_getElem h]; rfl

set_option maxRecDepth 20000 in
set_option maxHeartbeats 4000000 in
theorem l3Ins_any (p : List UInt8) (w : World) (hp : p.length ≤ 1048576) : Calls Tryz.prog 52 #[.string (str p)] w fun e w' => OutIn w w' e p := by
  have hb1 : Below w.heap.size w (w.alloc (.cells #[] 65)) := below_box _
  have hs1 : (w.alloc (.cells #[] 65)).heap.size = w.heap.size + 1 := by simp
  have hO1 : (w.alloc (.cells #[] 65)).ownsRow w.heap.size 65 2 (.slice (some ⟨w.heap.size, 0, none⟩) 0 0) 0 (gcells []) := ⟨rfl, .inr ⟨w.heap.size, 0, #[], rfl, Nat.le_refl _, heap_alloc_new _ _, Nat.le_refl _, by unfold maxLen; omega, rfl, rfl⟩⟩
  obtain ⟨ls, hls⟩ : ∃ l, l = cutL 43 p := ⟨_, rfl⟩
  obtain ⟨N, hN⟩ : ∃ N, N = ls.length := ⟨_, rfl⟩
  have hcut : Calls Tryz.prog 50 #[.string (str p), .int .u8 43] (w.alloc (.cells #[] 65)) fun e w' => ∃ gl vl, e = .returned (.slice (some ⟨gl, 0, none⟩) N vl) ∧ Hid (w'.ownsRow w.heap.size 9 1 (.slice (some ⟨gl, 0, none⟩) N vl) N (texts ls)) ∧ Hid (Below (w.heap.size + 1) (w.alloc (.cells #[] 65)) w') := by
    refine (l2Cut_any p 43 (w.alloc (.cells #[] 65)) hp).mono fun e w' ⟨va, vc, e1, hO, hb⟩ => ?_
    rw [← hls, ← hN] at e1 hO
    obtain ⟨gl, rfl⟩ := row_some hO (by rw [hN, hls]; have := List.length_pos_iff.2 (cutL_ne 43 p); omega)
    rw [hs1] at hb hO
    exact ⟨gl, vc, e1, Joins.ownsRow_le hO (by omega), hb⟩
  have hNl : N ≤ 1048577 := by rw [hN, hls]; have := cutL_len 43 p; omega
  have HSUB : Hid (∀ x ∈ ls, x.length ≤ 1048576) := fun x hx => Nat.le_trans (cutL_sub 43 p x (by rw [← hls]; exact hx)) hp
  have HLS : Hid (ls = cutL 43 p) := hls
  have HN : Hid (ls.length = N) := hN.symm
  have HO1 : Hid ((w.alloc (.cells #[] 65)).ownsRow w.heap.size 65 2 (.slice (some ⟨w.heap.size, 0, none⟩) 0 0) 0 (gcells [])) := hO1
  have HB1 : Hid (Below w.heap.size w (w.alloc (.cells #[] 65))) := hb1
  clear hls hN hb1 hO1
  go_enter Tryz.func52, Tryz.ntmps52
  go_wp2_with (first | (go_at_call 50; (with_reducible refine hcut.mono ?_); clear hcut; rintro e u2 ⟨gl, vl, rfl, HO2, HB2⟩))
  have HBU : Hid (Below w.heap.size w u2) := HB1.out.trans (HB2.out.mono (by omega))
  have HOU : Hid (u2.ownsRow w.heap.size 65 2 (.slice (some ⟨w.heap.size, 0, none⟩) 0 0) 0 (gcells [])) := by
    have hb : Below (w.alloc (.cells #[] 65)).heap.size (w.alloc (.cells #[] 65)) u2 := by rw [hs1]; exact HB2.out
    exact HO1.out.kept (grown_of_below hb) (by simp [Value.ownBlock])
  go_loopw [4, 6] (fun v i wr => ∃ j : Nat, j ≤ N ∧ i = .int .i64 j ∧ ∃ g5 c5, v = .slice (some ⟨g5, 0, none⟩) j c5 ∧ ∃ rs : List (Int × Int), Hid (rs.length = j) ∧ Hid ((ls.take j).map sref = rs.map some) ∧ Hid (wr.ownsRow w.heap.size 65 2 (.slice (some ⟨g5, 0, none⟩) j c5) j (gcells rs)) ∧ Hid (wr.ownsRow w.heap.size 9 1 (.slice (some ⟨gl, 0, none⟩) N vl) N (texts ls)) ∧ Hid (Below w.heap.size w wr)) (fun _ i _ => N - (intOf i).toNat)
  case atStart => exact ⟨0, Nat.zero_le _, rfl, w.heap.size, 0, rfl, [], rfl, rfl, HOU.out, HO2.out, HBU.out⟩
  case round =>
    obtain ⟨j, hj, rfl, g5, c5, rfl, rs, HRL, HRS, HRR, HWR, HBR⟩ := hrel
    by_cases hlt : j < N
    · obtain ⟨x, hx⟩ : ∃ x, x = ls.getD j [] := ⟨_, rfl⟩
      have hll : j < ls.length := by rw [HN.out]; exact hlt
      have hxm : x ∈ ls := by rw [hx]; exact getD_mem hll
      have hxl := HSUB.out x hxm
      have cl : wr.cell? ⟨gl, j, none⟩ = some (.string (str x)) := by rw [hx]; exact row_at HWR.out HN.out hlt
      have HX : Hid (ls.take (j + 1) = ls.take j ++ [x]) := by show _ = _; rw [hx]; exact take_nextP hll
      have hki : (j : Int) < (N : Int) := by omega
      have HNO : Hid (sref x = none → mapO sref (cutL 43 p) = none) := fun h => by rw [← HLS.out]; exact mapO_none hxm h
      have hc2 := l2Cut_any x 58 wr hxl
      clear hx hxm hll
      by_cases h2 : (cutL 58 x).length = 2
      · obtain ⟨a, b, hab⟩ := cut_two h2
        rw [hab] at hc2
        have hc2' : Calls Tryz.prog 50 #[.string (str x), .int .u8 58] wr fun e w' => ∃ g2 v2, e = .returned (.slice (some ⟨g2, 0, none⟩) 2 v2) ∧ Hid (w'.ownsRow wr.heap.size 9 1 (.slice (some ⟨g2, 0, none⟩) 2 v2) 2 (texts [a, b])) ∧ Hid (Below wr.heap.size wr w') := hc2.mono fun e w' ⟨va, vc, e1, hO, hb⟩ => by
          obtain ⟨g2, rfl⟩ := row_some hO (by simp)
          exact ⟨g2, vc, e1, hO, hb⟩
        have hal : a.length ≤ 1048576 := by have := cutL_sub 58 x a (by rw [hab]; simp); omega
        have hbl : b.length ≤ 1048576 := by have := cutL_sub 58 x b (by rw [hab]; simp); omega
        have hs := sref_two hab
        obtain ⟨n1, hn1⟩ : ∃ z, z = (numR a 2).1 := ⟨_, rfl⟩
        obtain ⟨k1, hk1⟩ : ∃ z, z = (numR a 2).2 := ⟨_, rfl⟩
        obtain ⟨n2, hn2⟩ : ∃ z, z = (numR b 1).1 := ⟨_, rfl⟩
        obtain ⟨k2, hk2⟩ : ∃ z, z = (numR b 1).2 := ⟨_, rfl⟩
        have hN1 : ∀ u, Calls Tryz.prog 51 #[.string (str a), .int .i64 2] u fun e w' => e = .returned (.tuple #[.int .i64 n1, .bool k1]) ∧ w' = u := fun u => by rw [hn1, hk1]; exact l2Number_any a 2 u hal (by omega)
        have hN2 : ∀ u, Calls Tryz.prog 51 #[.string (str b), .int .i64 1] u fun e w' => e = .returned (.tuple #[.int .i64 n2, .bool k2]) ∧ w' = u := fun u => by rw [hn2, hk2]; exact l2Number_any b 1 u hbl (by omega)
        rw [← hn1, ← hk1, ← hn2, ← hk2] at hs
        have HS : Hid (sref x = if k1 = true ∧ k2 = true then some (n1, n2) else none) := hs
        clear hs hn1 hk1 hn2 hk2 h2 hab hc2
        cases k1
        · have HNN : Hid (mapO sref (cutL 43 p) = none) := HNO.out (by rw [HS.out]; simp)
          go_wp2_with (first
            | (go_at_call 50; (with_reducible refine hc2'.mono ?_); clear hc2'; rintro e u3 ⟨g2, v2, rfl, HO3, HB3⟩; obtain ⟨s0, s1⟩ := row_two HO3.out)
            | (go_at_call 51; first
              | ((with_reducible refine (hN1 _).mono ?_); clear hN1; rintro e w' ⟨rfl, hw⟩; have hw2 := hw.symm; subst hw2; clear hw)
              | ((with_reducible refine (hN2 _).mono ?_); clear hN2; rintro e w' ⟨rfl, hw⟩; have hw2 := hw.symm; subst hw2; clear hw)))
          refine bodyPost_ret (v := .tuple #[.slice none 0 0, .bool false]) (by simp [results, Tryz.results52, go_sem]) rfl ?_
          exact ⟨HBR.out.trans (HB3.out.mono HBR.out.size), .inr ⟨HNN.out, rfl⟩⟩
        · cases k2
          · have HNN : Hid (mapO sref (cutL 43 p) = none) := HNO.out (by rw [HS.out]; simp)
            go_wp2_with (first
              | (go_at_call 50; (with_reducible refine hc2'.mono ?_); clear hc2'; rintro e u3 ⟨g2, v2, rfl, HO3, HB3⟩; obtain ⟨s0, s1⟩ := row_two HO3.out)
              | (go_at_call 51; first
                | ((with_reducible refine (hN1 _).mono ?_); clear hN1; rintro e w' ⟨rfl, hw⟩; have hw2 := hw.symm; subst hw2; clear hw)
                | ((with_reducible refine (hN2 _).mono ?_); clear hN2; rintro e w' ⟨rfl, hw⟩; have hw2 := hw.symm; subst hw2; clear hw)))
            refine bodyPost_ret (v := .tuple #[.slice none 0 0, .bool false]) (by simp [results, Tryz.results52, go_sem]) rfl ?_
            exact ⟨HBR.out.trans (HB3.out.mono HBR.out.size), .inr ⟨HNN.out, rfl⟩⟩
          · have HS2 : Hid (sref x = some (n1, n2)) := by show _ = _; rw [HS.out]; simp
            go_wp2_with (first
              | (go_at_call 50; (with_reducible refine hc2'.mono ?_); clear hc2'; rintro e u3 ⟨g2, v2, rfl, HO3, HB3⟩; obtain ⟨s0, s1⟩ := row_two HO3.out; have HBu : Hid (Below w.heap.size w u3) := HBR.out.trans (HB3.out.mono HBR.out.size); have hR3 := HRR.out.kept (grown_of_below HB3.out) (by simp [Value.ownBlock]); have HW3 : Hid (u3.ownsRow w.heap.size 9 1 (.slice (some ⟨gl, 0, none⟩) N vl) N (texts ls)) := HWR.out.kept (grown_of_below HB3.out) (by simp [Value.ownBlock]); obtain ⟨g6, c6, w6, hrun, HA⟩ := refS_added n1 n2 hR3 (by omega) HBu.out.size; clear hR3)
              | (go_at_call 51; first
                | ((with_reducible refine (hN1 _).mono ?_); clear hN1; rintro e w' ⟨rfl, hw⟩; have hw2 := hw.symm; subst hw2; clear hw)
                | ((with_reducible refine (hN2 _).mono ?_); clear hN2; rintro e w' ⟨rfl, hw⟩; have hw2 := hw.symm; subst hw2; clear hw))
              | (at_builtin; go_must (refine wpList_append_runC (by rfl) _ _ _ (by rfl) (by rfl) (by rfl) hrun ?_); clear hrun))
            go_roundw
            case rel => exact ⟨j + 1, by omega, by go_num, g6, c6, rfl, rs ++ [(n1, n2)], by show _ = _; rw [List.length_append, HRL.out]; rfl, by show _ = _; rw [HX.out, List.map_append, List.map_append, HRS.out]; simp [HS2.out], by show World.ownsRow _ _ _ _ _ _ _; rw [gcellsP_more]; exact HA.out.1, HA.out.2.2 _ _ _ HW3.out, HBu.out.trans HA.out.2.1⟩
            case measure => simp [intOf]; omega
      · have hne : ((((cutL 58 x).length : Nat) : Int) == 2) = false := by simp; omega
        have HNN : Hid (mapO sref (cutL 43 p) = none) := HNO.out (sref_no h2)
        obtain ⟨M, hM⟩ : ∃ M, M = (cutL 58 x).length := ⟨_, rfl⟩
        rw [← hM] at hc2 hne h2
        have hne2 : (M == 2) = false := by simpa using h2
        have hne3 : ¬ (M : Int) = 2 := by omega
        clear hM
        have hc3 : Calls Tryz.prog 50 #[.string (str x), .int .u8 58] wr fun e w' => ∃ va vc, e = .returned (.slice va M vc) ∧ Hid (Below wr.heap.size wr w') := hc2.mono fun e w' ⟨va, vc, e1, _, hb⟩ => ⟨va, vc, e1, hb⟩
        clear hc2
        go_wp2_with (first
          | (go_at_call 50; (with_reducible refine hc3.mono ?_); clear hc3; rintro e u3 ⟨va, v2, rfl, HB3⟩))
        refine bodyPost_ret (v := .tuple #[.slice none 0 0, .bool false]) (by simp [results, Tryz.results52, go_sem]) rfl ?_
        exact ⟨HBR.out.trans (HB3.out.mono HBR.out.size), .inr ⟨HNN.out, rfl⟩⟩
    · obtain rfl : j = N := by omega
      have HSOM : Hid (mapO sref (cutL 43 p) = some rs) := by
        show _ = _
        rw [← HLS.out]
        refine mapO_some ?_
        rw [← HRS.out, List.take_of_length_le (by rw [HN.out]; exact Nat.le_refl _)]
      go_wp2
      refine bodyPost_ret (v := .tuple #[.slice (some ⟨g5, 0, none⟩) j c5, .bool true]) (by simp [results, Tryz.results52, go_sem]) rfl ?_
      refine ⟨HBR.out, .inl ⟨rs, g5, c5, HSOM.out, ?_, ?_⟩⟩
      · rw [HRL.out]
      · rw [HRL.out]; exact HRR.out

/-- A transaction under way in block T, its words in block g. -/
structure Sl (w v : World) (g : Nat) (ws : List (List UInt8)) (T mid : Nat) (k f : Int) (ia : Option Addr) (n ic : Nat) (rs : List (Int × Int)) (sa : Option Addr) (sn sc : Nat) (oa : Option Addr) (m oc : Nat) (os : List Ou) (kv : Nat → Value) : Prop where
  wd : ∀ i, i < ws.length → v.cell? ⟨g, i, none⟩ = some (.string (str (ws.getD i [])))
  box : v.heap[T]? = some (.cells #[.int .i64 k, .int .i64 f, .slice ia n ic, .slice sa sn sc] 28 (0, 0))
  res : v.heap[w.heap.size]? = some (.cells #[.int .i64 0, .int .i64 0, .slice none 0 0, .slice none 0 0] 28 (0, 0))
  ref : v.ownsRow w.heap.size 65 2 (.slice ia n ic) n (gcells rs)
  rlt : ∀ b, Value.ownBlock (.slice ia n ic) = some b → b < mid
  out : OOwn v mid v.heap.size (.slice oa m oc) m (fun q => os.getD q O0) kv
  bel : Below w.heap.size w v
  ord : w.heap.size < g ∧ g < T ∧ T < mid ∧ mid ≤ v.heap.size
section
variable {w v v2 : World} {g : Nat} {ws : List (List UInt8)} {T mid mid2 : Nat} {k f k2 f2 : Int} {ia ia2 : Option Addr} {n ic n2 ic2 : Nat} {rs rs2 : List (Int × Int)} {sa : Option Addr} {sn sc : Nat} {oa oa2 : Option Addr} {m oc m2 oc2 : Nat} {os os2 : List Ou} {kv kv2 : Nat → Value}
theorem Sl.mem (H : Sl w v g ws T mid k f ia n ic rs sa sn sc oa m oc os kv) (hb : Below v.heap.size v v2) : Sl w v2 g ws T mid k f ia n ic rs sa sn sc oa m oc os kv := by
  have ho := H.ord
  have hs := hb.size
  exact ⟨fun z hz => (hb.cell (p := ⟨g, z, none⟩) (show g < v.heap.size by omega)).trans (H.wd z hz), (keepb H.box hb).out, (keepb H.res hb).out, H.ref.kept (grown_of_below hb) (by cases Value.ownBlock (.slice ia n ic) <;> simp), H.rlt, (H.out.below hb).up hs, H.bel.trans (hb.mono H.bel.size), by omega⟩
theorem Sl.setM (H : Sl w v g ws T mid k f ia n ic rs sa sn sc oa m oc os kv) (hm : m = 0) (ho0 : oa = none ∧ oc = 0) : Sl w (v.setCell ⟨T, 1, none⟩ (.int .i64 f2)) g ws T mid k f2 ia n ic rs sa sn sc oa m oc os kv := by
  have ho := H.ord
  subst hm
  obtain ⟨rfl, rfl⟩ := ho0
  have hk : ∀ b, b ≠ T → (v.setCell ⟨T, 1, none⟩ (.int .i64 f2)).heap[b]? = v.heap[b]? := fun b hb => Below.heap_setCell _ ⟨T, 1, none⟩ _ b hb
  have hb := Joins.block_setCell (i := 1) H.box (.int .i64 f2)
  refine ⟨fun z hz => (World.cell?_of_block (hk g (by omega))).trans (H.wd z hz), by simpa using hb, (hk _ (by omega)).trans H.res, ?_, H.rlt, OOwn.none, H.bel.setCell (p := ⟨T, 1, none⟩) (show w.heap.size ≤ T by omega) _, by simpa using ho⟩
  refine H.ref.kept (grownBy_setCell v ⟨T, 1, none⟩ (.int .i64 f2)) ?_
  rcases H.ref.2 with ⟨q0, _⟩ | ⟨g', cap, cur, q0, _, hgb, _⟩
  · rw [q0]; exact .inl rfl
  · rw [q0]
    refine .inr fun e' => ?_
    have e2 : g' = T := by simpa [Value.ownBlock] using e'
    subst e2
    rw [H.box] at hgb
    cases hgb
theorem Sl.setI (H : Sl w v g ws T mid k f ia n ic rs sa sn sc oa m oc os kv) (hm : m = 0) (ho0 : oa = none ∧ oc = 0) (hr : v.ownsRow w.heap.size 65 2 (.slice ia2 n2 ic2) n2 (gcells rs2)) (hne : ∀ b, Value.ownBlock (.slice ia2 n2 ic2) = some b → b ≠ T) : Sl w (v.setCell ⟨T, 2, none⟩ (.slice ia2 n2 ic2)) g ws T v.heap.size k f ia2 n2 ic2 rs2 sa sn sc oa m oc os kv := by
  have ho := H.ord
  subst hm
  obtain ⟨rfl, rfl⟩ := ho0
  have hk : ∀ b, b ≠ T → (v.setCell ⟨T, 2, none⟩ (.slice ia2 n2 ic2)).heap[b]? = v.heap[b]? := fun b hb => Below.heap_setCell _ ⟨T, 2, none⟩ _ b hb
  have hb := Joins.block_setCell (i := 2) H.box (.slice ia2 n2 ic2)
  refine ⟨fun z hz => (World.cell?_of_block (hk g (by omega))).trans (H.wd z hz), by simpa using hb, (hk _ (by omega)).trans H.res, ?_, fun b hb => (hr.lt b hb).2, OOwn.none, H.bel.setCell (p := ⟨T, 2, none⟩) (show w.heap.size ≤ T by omega) _, by simp; omega⟩
  refine hr.kept (grownBy_setCell v ⟨T, 2, none⟩ (.slice ia2 n2 ic2)) ?_
  cases e : Value.ownBlock (.slice ia2 n2 ic2) with
  | none => exact .inl rfl
  | some b => exact .inr fun e' => hne b e (Option.some.inj e')
theorem Sl.app (H : Sl w v g ws T mid k f ia n ic rs sa sn sc oa m oc os kv) (hb : Below mid v v2) (hO : OOwn v2 mid v2.heap.size (.slice oa2 m2 oc2) m2 (fun q => os2.getD q O0) kv2) : Sl w v2 g ws T mid k f ia n ic rs sa sn sc oa2 m2 oc2 os2 kv2 := by
  have ho := H.ord
  have hs := hb.size
  refine ⟨fun z hz => (hb.cell (p := ⟨g, z, none⟩) (show g < mid by omega)).trans (H.wd z hz), (hb.block T (by omega)).trans H.box, (hb.block _ (by omega)).trans H.res, ?_, H.rlt, hO, H.bel.trans (hb.mono (by omega)), by omega⟩
  refine ⟨H.ref.1, ?_⟩
  rcases H.ref.2 with hn | ⟨g', cap, cur, q0, h1, hgb, rest⟩
  · exact .inl hn
  · exact .inr ⟨g', cap, cur, q0, h1, (hb.block g' (H.rlt g' (by rw [q0]; rfl))).trans hgb, rest⟩
theorem Sl.setO (H : Sl w v g ws T mid k f ia n ic rs sa sn sc oa m oc os kv) : Sl w (v.setCell ⟨T, 3, none⟩ (.slice oa m oc)) g ws T mid k f ia n ic rs oa m oc oa m oc os kv := by
  have ho := H.ord
  have hk : ∀ b, b ≠ T → (v.setCell ⟨T, 3, none⟩ (.slice oa m oc)).heap[b]? = v.heap[b]? := fun b hb => Below.heap_setCell _ ⟨T, 3, none⟩ _ b hb
  have hb := Joins.block_setCell (i := 3) H.box (.slice oa m oc)
  refine ⟨fun z hz => (World.cell?_of_block (hk g (by omega))).trans (H.wd z hz), by simpa using hb, (hk _ (by omega)).trans H.res, ?_, H.rlt, ?_, H.bel.setCell (p := ⟨T, 3, none⟩) (show w.heap.size ≤ T by omega) _, by simpa using ho⟩
  · refine H.ref.kept (grownBy_setCell v ⟨T, 3, none⟩ (.slice oa m oc)) ?_
    rcases H.ref.2 with ⟨q0, _⟩ | ⟨g', cap, cur, q0, _, hgb, _⟩
    · rw [q0]; exact .inl rfl
    · rw [q0]
      refine .inr fun e' => ?_
      have e2 : g' = T := by simpa [Value.ownBlock] using e'
      subst e2
      rw [H.box] at hgb
      cases hgb
  · have hc : Chg v (v.setCell ⟨T, 3, none⟩ (.slice oa m oc)) T (T + 1) := (Chg.refl _ _ _).setCell ⟨Nat.le_refl _, by omega⟩ _
    have := H.out.chg hc (.inr (by omega))
    simpa using this
end

end Go.Proofs.YtciefdphjkjikaaGreatDoor
