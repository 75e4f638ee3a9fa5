/- The program's readTx: what is read is told again and held against the text. -/
import Derived.Test.YtciefdphjkjikaaGreatDoorBf
import Derived.Test.YtciefdphjkjikaaGreatDoorTtZ
import Derived.Test.YtciefdphjkjikaaGreatDoorAm
import Derived.Lib.SplitLaws
namespace Go.Proofs.YtciefdphjkjikaaGreatDoor
open Go.RowKit Go.Shelf Go.Maps Go.WideMaps

theorem splitK_cut (c : UInt8) : ∀ (n : Nat) (l : List UInt8), l.length ≤ n → Lib.splitK [c] 0 (Lib.count l [c]) l = cutL c l
  | n, l, hn => by
    by_cases hc : c ∈ l
    · obtain ⟨a, b, hab, ha⟩ := mem_first hc
      cases n with
      | zero =>
        rw [List.length_eq_zero_iff.1 (Nat.le_zero.1 hn)] at hc
        cases hc
      | succ n =>
      subst hab
      have e1 : Lib.count (a ++ c :: b) [c] = Lib.count b [c] + 1 := by
        rw [Lib.count_one, Lib.count_one, List.count_append, List.count_eq_zero.2 ha, List.count_cons_self]
        omega
      have hi : Lib.index (a ++ c :: b) [c] = a.length := by
        have := index_at (tl := []) (r := b) ha
        simpa using this
      have hne : ((a.length : Int) == -1) = false := by simp
      rw [e1, Lib.splitK, hi, hne, cutL_at ha, ← splitK_cut c n b (by simp at hn; omega)]
      simp
    · have e0 : Lib.count l [c] = 0 := by rw [Lib.count_one]; exact List.count_eq_zero.2 hc
      rw [e0, cutL_one hc]
      rfl
/-- The words of a text, split. -/
theorem split_any (t : List UInt8) (m : Int) (w : World) (ht : t.length ≤ 1048576) (hm : w.cell? ⟨1, 0, none⟩ = some (.int .i64 m)) :
    Calls Tryz.prog 42 #[.string (str t), .string ⟨#[32]⟩] w fun e w' => e = .returned (.slice (some ⟨w.heap.size, 0, none⟩) (cutL 32 t).length (cutL 32 t).length) ∧ w' = w.alloc (.cells (texts (cutL 32 t)).toArray 9) := by
  have hs : (str t).size = t.length := rfl
  have h := Tryz.strings_Split (str t) ⟨#[32]⟩ m w (by rw [hs]; omega) hm (by decide)
  have hd := Lib.splitB_data ⟨#[32]⟩ 0 (Lib.countB (str t) ⟨#[32]⟩) (str t)
  have ed : (str t).data.toList = t := by simp [str]
  have ec : Lib.countB (str t) ⟨#[32]⟩ = Lib.count t [32] := by
    show Lib.count (str t).data.toList [32] = _
    rw [ed]
  rw [ed, ec] at hd
  have hk : Lib.splitK [32] 0 (Lib.count t [32]) t = cutL 32 t := splitK_cut 32 _ t (Nat.le_refl _)
  have hd2 : (Lib.splitB ⟨#[32]⟩ 0 (Lib.count t [32]) (str t)).map (·.data.toList) = cutL 32 t := hd.trans hk
  have hl := Lib.splitB_all ⟨#[32]⟩ (by decide) 0 _ (str t) ec
  have hln : Lib.count t [32] + 1 = (cutL 32 t).length := by rw [← hd2, List.length_map]; exact hl.symm
  have hv : (Lib.splitB ⟨#[32]⟩ 0 (Lib.count t [32]) (str t)).map Value.string = texts (cutL 32 t) := by
    rw [← hd2]
    unfold texts
    rw [List.map_map]
    exact List.map_congr_left fun b _ => rfl
  rw [ec, hln, hv] at h
  exact h
theorem mapO_len {α β : Type} {g : α → Option β} : ∀ {l : List α} {r : List β}, mapO g l = some r → r.length = l.length
  | [], r, h => by simp [mapO] at h; rw [h]; rfl
  | a :: l, r, h => by
    rw [mapO] at h
    cases h1 : g a with
    | none => rw [h1] at h; cases h
    | some b =>
      cases h2 : mapO g l with
      | none => rw [h1, h2] at h; cases h
      | some q =>
        rw [h1, h2] at h
        simp only [Option.some.injEq] at h
        rw [← h, List.length_cons, List.length_cons, mapO_len h2]
theorem mapO_mem {α β : Type} {g : α → Option β} : ∀ {l : List α} {r : List β}, mapO g l = some r → ∀ b ∈ r, ∃ a ∈ l, g a = some b
  | [], r, h, b, hb => by simp [mapO] at h; rw [h] at hb; cases hb
  | a :: l, r, h, b, hb => by
    rw [mapO] at h
    cases h1 : g a with
    | none => rw [h1] at h; cases h
    | some c =>
      cases h2 : mapO g l with
      | none => rw [h1, h2] at h; cases h
      | some q =>
        rw [h1, h2] at h
        simp only [Option.some.injEq] at h
        rw [← h] at hb
        rcases List.mem_cons.1 hb with rfl | hb
        · exact ⟨a, by simp, h1⟩
        · obtain ⟨a', ha', he⟩ := mapO_mem h2 b hb
          exact ⟨a', by simp [ha'], he⟩
theorem prR_few (t : List UInt8) : (prR t).2.1.length ≤ 3 := prR_len t
theorem rout_few {p : List UInt8} {o : Ou} (h : rout p = some o) : o.l.length ≤ 3 := by
  unfold rout at h
  split at h
  · split at h
    · simp only [Option.some.injEq] at h
      rw [← h]
      exact prR_few _
    · cases h
  · cases h
theorem rrest_few {k f : Int} {ls : List (List UInt8)} {M : Nat} {x : TxV} (h : rrest k f ls = some x) (hl : ∀ y ∈ ls, y.length ≤ M) : x.rs.length ≤ M + 1 ∧ x.os.length ≤ ls.length ∧ ∀ o ∈ x.os, o.l.length ≤ 3 := by
  cases ls with
  | nil => cases h
  | cons i r =>
    rw [rrest] at h
    cases h1 : mapO rref (cutL 43 i) with
    | none => rw [h1] at h; cases h
    | some rs =>
      cases h2 : mapO rout r with
      | none => rw [h1, h2] at h; cases h
      | some os =>
        rw [h1, h2] at h
        simp only [Option.some.injEq] at h
        rw [← h]
        refine ⟨?_, ?_, fun o ho => ?_⟩
        · have a := mapO_len h1
          have b := cutL_len 43 i
          have c := hl i (by simp)
          show rs.length ≤ _
          omega
        · have a := mapO_len h2
          show os.length ≤ _
          simp
          omega
        · obtain ⟨a, _, e⟩ := mapO_mem h2 o ho
          exact rout_few e
theorem rwords_few {ls : List (List UInt8)} {M : Nat} {x : TxV} (h : rwords ls = some x) (hl : ∀ y ∈ ls, y.length ≤ M) : x.rs.length ≤ M + 1 ∧ x.os.length ≤ ls.length ∧ ∀ o ∈ x.os, o.l.length ≤ 3 := by
  cases ls with
  | nil => cases h
  | cons a r =>
    rw [rwords] at h
    cases hk : kindO a with
    | none => rw [hk] at h; cases h
    | some k =>
      rw [hk] at h
      simp only at h
      by_cases e : k = 0
      · rw [if_pos e] at h
        have := rrest_few h (fun y hy => hl y (by simp [hy]))
        exact ⟨this.1, by have := this.2.1; simp; omega, this.2.2⟩
      · rw [if_neg e] at h
        cases r with
        | nil => cases h
        | cons m r2 =>
          rw [rmem] at h
          cases hn : rnum m with
          | none => rw [hn] at h; cases h
          | some f =>
            rw [hn] at h
            have := rrest_few h (fun y hy => hl y (by simp [hy]))
            exact ⟨this.1, by have := this.2.1; simp; omega, this.2.2⟩
theorem OOwn.at2 {w : World} {lo hi m oc : Nat} {oa : Option Addr} {os : List Ou} {kv : Nat → Value} (h : OOwn w lo hi (.slice oa m oc) m (fun j => os.getD j O0) kv) (hn : os.length = m) (hl : ∀ o ∈ os, o.l.length ≤ 3) : OAt w oa m os := by
  obtain ⟨xs, h1, _⟩ := h.row
  rcases h1.2 with ⟨q, q0⟩ | ⟨g, cap, cur, q, _⟩
  · exact ⟨hn, .inl q0⟩
  · cases q
    exact h.at hn fun j hj => Nat.le_trans (hl _ (getD_mem (by omega))) (by omega)
theorem GAt.owned2 {w : World} {base n c : Nat} {a : Option Addr} {rs : List (Int × Int)} {e : TypeId} (h : w.ownsRow base e 2 (.slice a n c) n (gcells rs)) (hn : rs.length = n) : GAt w a n rs := by
  rcases id h.2 with ⟨q, q0⟩ | ⟨g, cap, cur, q, _⟩
  · exact ⟨hn, .inl q0⟩
  · cases q
    exact GAt.owned h hn
theorem row_caps2 {w : World} {base n c s : Nat} {a : Option Addr} {xs : List Value} {e : TypeId} (h : w.ownsRow base e s (.slice a n c) n xs) : n ≤ c ∧ c ≤ maxLen := by
  rcases h.2 with ⟨q, q0⟩ | ⟨g, cap, cur, q, _, _, k1, k2, _⟩
  · cases q; exact ⟨Nat.le_refl _, by unfold maxLen; omega⟩
  · cases q; exact ⟨k1, k2⟩

/-- What readTx leaves. -/
def OutRt (w w' : World) (e : Ending) (t : List UInt8) : Prop := Below w.heap.size w w' ∧ ((∃ x g0 c0 g1 c1 mid kv, parT t = some x ∧ e = .returned (.agg #[.int .i64 x.k, .int .i64 x.f, .slice (some ⟨g0, 0, none⟩) x.rs.length c0, .slice (some ⟨g1, 0, none⟩) x.os.length c1]) ∧ TOwn w' w.heap.size mid w'.heap.size x.rs.length x.os.length g0 c0 g1 c1 x.rs x.os kv) ∨ (parT t = none ∧ e = .panicked pnC))
theorem parT_words (t : List UInt8) : parT t = kept (rwords (cutL 32 t)) t := by
  unfold parT
  rw [← reads_same, rread_words]
theorem kept_no {o : Option TxV} {t : List UInt8} (h : ∀ x, o = some x → ¬ x.fits t) : kept o t = none := by
  cases o with
  | none => rfl
  | some x => exact if_neg (h x rfl)

set_option maxRecDepth 20000 in
set_option maxHeartbeats 8000000 in
theorem readTx_any (t : List UInt8) (mx : Int) (w : World) (ht : t.length ≤ 1048576) (hm : w.cell? ⟨1, 0, none⟩ = some (.int .i64 mx)) (hE : Erv w) (hEv : Ev w) :
    Calls Tryz.prog 22 #[.string (str t)] w fun e w' => OutRt w w' e t := by
  have hss : (str t).size = t.length := rfl
  have HB1 : Hid (Below w.heap.size w (w.alloc (.cells #[.int .i64 0, .int .i64 0, .slice none 0 0, .slice none 0 0] 28))) := below_box _
  by_cases hlen : 300 < t.length
  · have hpar : parT t = none := by
      rw [parT_words]
      exact kept_no fun x _ h => by have := h.2.2; omega
    have hli : (300 : Int) < (t.length : Int) := by omega
    have hld : decide ((300 : Int) < (t.length : Int)) = true := decide_eq_true hli
    go_enter Tryz.func22, Tryz.ntmps22
    go_wp2
    exact ⟨rfl, HB1.out, .inr ⟨hpar, rfl⟩⟩
  · have hli : ¬ (300 : Int) < (t.length : Int) := by omega
    have hld : decide ((300 : Int) < (t.length : Int)) = false := decide_eq_false hli
    have hs1 : (w.alloc (.cells #[.int .i64 0, .int .i64 0, .slice none 0 0, .slice none 0 0] 28)).heap.size = w.heap.size + 1 := by simp
    have hlm := World.block_lt_of_cell? _ _ hm
    have HG : Hid (∀ u, Below w.heap.size w u → Gok mx u) := fun u h => ⟨(h.cell (p := ⟨1, 0, none⟩) hlm).trans hm, hE.below h, hEv.tb.below h (Nat.le_refl _), hEv.below h (Nat.le_refl _)⟩
    have hSp := split_any t mx (w.alloc (.cells #[.int .i64 0, .int .i64 0, .slice none 0 0, .slice none 0 0] 28)) ht (HG.out _ HB1.out).ml
    rw [hs1] at hSp
    obtain ⟨N, hN⟩ : ∃ N, N = (cutL 32 t).length := ⟨_, rfl⟩
    rw [← hN] at hSp
    have hNl := cutL_len 32 t
    have hb2 : Below w.heap.size w ((w.alloc (.cells #[.int .i64 0, .int .i64 0, .slice none 0 0, .slice none 0 0] 28)).alloc (.cells (texts (cutL 32 t)).toArray 9)) := below_box2 _ _
    have hb3 : Below w.heap.size w (((w.alloc (.cells #[.int .i64 0, .int .i64 0, .slice none 0 0, .slice none 0 0] 28)).alloc (.cells (texts (cutL 32 t)).toArray 9)).alloc (.cells #[.slice (some ⟨w.heap.size + 1, 0, none⟩) N N] 80)) := hb2.trans ((below_box _).mono hb2.size)
    have hs3 : ((w.alloc (.cells #[.int .i64 0, .int .i64 0, .slice none 0 0, .slice none 0 0] 28)).alloc (.cells (texts (cutL 32 t)).toArray 9)).heap.size = w.heap.size + 1 + 1 := by simp
    obtain ⟨V3, hV3⟩ : ∃ V, V = (((w.alloc (.cells #[.int .i64 0, .int .i64 0, .slice none 0 0, .slice none 0 0] 28)).alloc (.cells (texts (cutL 32 t)).toArray 9)).alloc (.cells #[.slice (some ⟨w.heap.size + 1, 0, none⟩) N N] 80)) := ⟨_, rfl⟩
    have hs4 : V3.heap.size = w.heap.size + 1 + 1 + 1 := by rw [hV3]; simp
    have hR1 : V3.heap[w.heap.size]? = some (.cells #[.int .i64 0, .int .i64 0, .slice none 0 0, .slice none 0 0] 28 (0, 0)) := by
      rw [hV3]
      exact (keepb (keepb (heap_alloc_new w _) (below_box _)).out (below_box _)).out
    have hwd : WdR V3 (w.heap.size + 1 + 1) (w.heap.size + 1) (cutL 32 t) 0 := by
      rw [hV3]
      refine ⟨⟨some ⟨w.heap.size + 1, 0, none⟩, ?_, fun _ => rfl⟩, ?_, by omega, by omega⟩
      · have := heap_alloc_new ((w.alloc (.cells #[.int .i64 0, .int .i64 0, .slice none 0 0, .slice none 0 0] 28)).alloc (.cells (texts (cutL 32 t)).toArray 9)) (.cells #[.slice (some ⟨w.heap.size + 1, 0, none⟩) N N] 80)
        rw [hs3] at this
        rw [Nat.sub_zero, ← hN]
        exact this
      · have h1 := heap_alloc_new (w.alloc (.cells #[.int .i64 0, .int .i64 0, .slice none 0 0, .slice none 0 0] 28)) (.cells (texts (cutL 32 t)).toArray 9)
        rw [hs1] at h1
        exact (keepb h1 (below_box _)).out
    rw [← hV3] at hb3
    have hRWd := readWords_any (w.heap.size + 1 + 1) (w.heap.size + 1) (cutL 32 t) mx V3 hwd (by omega) (by omega) (fun x hx => Nat.le_trans (cutL_sub 32 t x hx) ht) (cutL_ne 32 t) (fun u hu => HG.out u (hb3.trans (hu.below (by omega) hb3.size)))
    have HB3 : Hid (Below w.heap.size w V3) := hb3
    have HR1 : Hid (V3.heap[w.heap.size]? = some (.cells #[.int .i64 0, .int .i64 0, .slice none 0 0, .slice none 0 0] 28 (0, 0))) := hR1
    have HS4 : Hid (V3.heap.size = w.heap.size + 1 + 1 + 1) := hs4
    have HNN : Hid (N = (cutL 32 t).length) := hN
    have hNl2 : N ≤ 301 := by omega
    clear hN hwd hm hlm hE hEv hb2 hb3 hR1 hs3 hs4
    cases hrw : rwords (cutL 32 t) with
    | none =>
      have hpar : parT t = none := by rw [parT_words, hrw]; rfl
      have hRW2 : Calls Tryz.prog 41 #[.pointer (some ⟨w.heap.size + 1 + 1, 0, none⟩)] V3 fun e w' => e = .panicked pnC ∧ Chg V3 w' (w.heap.size + 1 + 1) (w.heap.size + 1 + 1 + 1) := hRWd.mono fun e w' ⟨hc, h⟩ => by
        rcases h with ⟨x, ia, ic, oa, oc, kv, mid, q, _⟩ | ⟨_, q⟩
        · rw [hrw] at q; cases q
        · exact ⟨q, hc⟩
      rw [hV3] at hRW2
      clear hRWd
      go_enter Tryz.func22, Tryz.ntmps22
      go_wp2_with (first
        | (go_at_call 42; (with_reducible refine hSp.mono ?_); clear hSp; rintro e w2 ⟨rfl, hw2⟩; have hw2' := hw2.symm; subst hw2')
        | (go_at_call 41; (with_reducible refine hRW2.mono ?_); clear hRW2; rintro e w4 ⟨rfl, hc4⟩))
      rw [← hV3] at hc4
      exact ⟨rfl, HB3.out.trans (hc4.below (by omega) HB3.out.size), .inr ⟨hpar, rfl⟩⟩
    | some x =>
      have hpx : parT t = kept (some x) t := by rw [parT_words, hrw]
      obtain ⟨hfr, hfo, hfl⟩ := rwords_few hrw (fun y hy => cutL_sub 32 t y hy)
      have hRW2 : Calls Tryz.prog 41 #[.pointer (some ⟨w.heap.size + 1 + 1, 0, none⟩)] V3 fun e w' => ∃ ia ic oa oc kv mid, e = .returned (.agg #[.int .i64 x.k, .int .i64 x.f, .slice ia x.rs.length ic, .slice oa x.os.length oc]) ∧ Hid (Chg V3 w' (w.heap.size + 1 + 1) (w.heap.size + 1 + 1 + 1)) ∧ Hid (w'.ownsRow V3.heap.size 65 2 (.slice ia x.rs.length ic) x.rs.length (gcells x.rs) ∧ (∀ b, Value.ownBlock (.slice ia x.rs.length ic) = some b → b < mid) ∧ OOwn w' mid w'.heap.size (.slice oa x.os.length oc) x.os.length (fun q => x.os.getD q O0) kv ∧ V3.heap.size ≤ mid ∧ mid ≤ w'.heap.size) := hRWd.mono fun e w' ⟨hc, h⟩ => by
        rcases h with ⟨y, ia, ic, oa, oc, kv, mid, q, q1, q2, q3, q4, q5, q6⟩ | ⟨q, _⟩
        · rw [hrw] at q
          cases q
          exact ⟨ia, ic, oa, oc, kv, mid, q1, hc, q2, q3, q4, q5, q6⟩
        · rw [hrw] at q; cases q
      clear hRWd hrw
      obtain ⟨k, f, rs, os⟩ := x
      simp only at hfr hfo hfl hRW2
      obtain ⟨n, hn⟩ : ∃ n, n = rs.length := ⟨_, rfl⟩
      obtain ⟨m, hmm⟩ : ∃ m, m = os.length := ⟨_, rfl⟩
      rw [← hn, ← hmm] at hRW2
      rw [← hn] at hfr
      rw [← hmm] at hfo
      have hn2 : n ≤ 1048576 := by omega
      have hm2 : m ≤ 1048576 := by omega
      have HNR : Hid (rs.length = n) := hn.symm
      have HMR : Hid (os.length = m) := hmm.symm
      have HFL : Hid (∀ o ∈ os, o.l.length ≤ 3) := hfl
      have HPX : Hid (parT t = kept (some ⟨k, f, rs, os⟩) t) := hpx
      obtain ⟨⟨cd, tx⟩, htt⟩ : ∃ r, ttR k f rs os = r := ⟨_, rfl⟩
      have HTT : Hid (ttR k f rs os = (cd, tx)) := htt
      -- TxText at what was read
      have HTX : Hid (∀ (u : World) ia ic oa oc kv mid, Below w.heap.size w u → u.ownsRow V3.heap.size 65 2 (.slice ia n ic) n (gcells rs) → OOwn u mid u.heap.size (.slice oa m oc) m (fun q => os.getD q O0) kv → Calls Tryz.prog 7 #[.agg #[.int .i64 k, .int .i64 f, .slice ia n ic, .slice oa m oc]] u fun e w' => e = .returned (.agg #[.int .i64 cd, .string (str tx)]) ∧ Below u.heap.size u w') := fun u ia ic oa oc kv mid hu h1 h2 => by
        have hc := row_caps2 h1
        have := iTxText_any n ic m oc ia oa k f rs os u hn2 hm2 hc.1 hc.2 (fun j hj => Nat.le_trans (HFL.out _ (getD_mem (by rw [HMR.out]; exact hj))) (by omega)) ⟨GAt.owned2 h1 HNR.out, h2.at2 HMR.out HFL.out⟩ (HG.out u hu).ev (fun e => tx_len (txOk_of e.symm) (tx_more e.symm).1)
        rw [HTT.out] at this
        exact this
      rw [hV3] at hRW2
      clear hn hmm hfl hpx htt hfr hfo
      have A1 : Hid (∀ w4 : World, Hid (Chg V3 w4 (w.heap.size + 1 + 1) (w.heap.size + 1 + 1 + 1)) → Below w.heap.size w w4) := fun w4 h => HB3.out.trans (h.out.below (by omega) HB3.out.size)
      by_cases hz : cd = 0
      · subst hz
        by_cases htx : tx = t
        · subst htx
          have hE : ((str tx).toList == (str tx).toList) = true := str_yes rfl
          have hfit : TxV.fits ⟨k, f, rs, os⟩ tx := by
            have h1 := HTT.out
            unfold ttR at h1
            by_cases q : txR k f rs os ≠ 0
            · rw [if_pos q] at h1; simp at h1; exact absurd h1.1 q
            · rw [if_neg q] at h1
              by_cases q2 : 300 < (txT k f rs os).length
              · rw [if_pos q2] at h1; simp at h1
              · rw [if_neg q2] at h1
                simp at h1
                exact ⟨Classical.not_not.1 q, h1, by omega⟩
          have HPS : Hid (parT tx = some ⟨k, f, rs, os⟩) := by show _ = _; rw [HPX.out]; exact if_pos hfit
          have hne := tx_parts (x := ⟨k, f, rs, os⟩) hfit.1
          have hn0 : n ≠ 0 := fun e => hne.2.2.1 (List.length_eq_zero_iff.1 (HNR.out.trans e))
          have hm0 : m ≠ 0 := fun e => hne.2.2.2.1 (List.length_eq_zero_iff.1 (HMR.out.trans e))
          clear hne hfit
          go_enter Tryz.func22, Tryz.ntmps22
          go_wp2_with (first
            | (go_at_call 42; (with_reducible refine hSp.mono ?_); clear hSp; rintro e w2 ⟨rfl, hw2⟩; have hw2' := hw2.symm; subst hw2')
            | (go_at_call 41; (with_reducible refine hRW2.mono ?_); clear hRW2; rintro e w4 ⟨ia, ic, oa, oc, kv, mid, rfl, HC4, HQ4⟩; rw [← hV3] at HC4 HQ4; have HB4 : Hid (Below w.heap.size w w4) := A1.out w4 HC4; have HX5 : Hid ((w4.alloc (.cells #[.int .i64 k, .int .i64 f, .slice ia n ic, .slice oa m oc] 28)).heap[w4.heap.size]? = some (.cells #[.int .i64 k, .int .i64 f, .slice ia n ic, .slice oa m oc] 28 (0, 0))) := heap_alloc_new _ _; have hbx : Below w4.heap.size w4 (w4.alloc (.cells #[.int .i64 k, .int .i64 f, .slice ia n ic, .slice oa m oc] 28)) := below_box _; have HB5 : Hid (Below w.heap.size w (w4.alloc (.cells #[.int .i64 k, .int .i64 f, .slice ia n ic, .slice oa m oc] 28))) := HB4.out.trans (hbx.mono HB4.out.size); have HR5 : Hid ((w4.alloc (.cells #[.int .i64 k, .int .i64 f, .slice ia n ic, .slice oa m oc] 28)).heap[w.heap.size]? = some (.cells #[.int .i64 0, .int .i64 0, .slice none 0 0, .slice none 0 0] 28 (0, 0))) := keepb (HC4.out.keep HR1.out (.inl (by omega))) hbx; have HO5 : Hid ((w4.alloc (.cells #[.int .i64 k, .int .i64 f, .slice ia n ic, .slice oa m oc] 28)).ownsRow V3.heap.size 65 2 (.slice ia n ic) n (gcells rs) ∧ OOwn (w4.alloc (.cells #[.int .i64 k, .int .i64 f, .slice ia n ic, .slice oa m oc] 28)) mid w4.heap.size (.slice oa m oc) m (fun q => os.getD q O0) kv) := ⟨HQ4.out.1.alloc _, HQ4.out.2.2.1.below hbx⟩; have hTX := HTX.out _ ia ic oa oc kv mid HB5.out HO5.out.1 (HO5.out.2.up hbx.size); clear hbx)
            | (go_at_call 7; (with_reducible refine hTX.mono ?_); clear hTX; rintro e w6 ⟨rfl, hb6⟩; have HX6 := keepb HX5.out hb6; have HR6 := keepb HR5.out hb6; have HB6 : Hid (Below w.heap.size w w6) := HB5.out.trans (hb6.mono HB5.out.size); have HO6 : Hid (w6.ownsRow V3.heap.size 65 2 (.slice ia n ic) n (gcells rs) ∧ OOwn w6 mid w4.heap.size (.slice oa m oc) m (fun q => os.getD q O0) kv) := ⟨HO5.out.1.kept (grown_of_below hb6) (by cases Value.ownBlock (.slice ia n ic) <;> simp), HO5.out.2.below hb6⟩; have hl6 : w4.heap.size < w6.heap.size := lt_of_block HX6.out; have hbt : Below w6.heap.size w6 (w6.alloc (.cells #[.int .i64 0, .string (str tx)] 33)) := below_box _; have HX7 := keepb HX6.out hbt; have HR7 := keepb HR6.out hbt; obtain ⟨p0, p1, p2, p3, _⟩ := cells4 HX7.out; obtain ⟨q0, q1, q2, q3, q4, q5, q6, q7⟩ := cells4 HR7.out; clear hb6 hbt))
          have hbt : Below w6.heap.size w6 (w6.alloc (.cells #[.int .i64 0, .string (str tx)] 33)) := below_box _
          obtain ⟨j0, j1, j2, j3⟩ := four_set HR7.out (.int .i64 k) (.int .i64 f) (.slice ia n ic) (.slice oa m oc)
          refine bodyPost_ret (v := .agg #[.int .i64 k, .int .i64 f, .slice ia n ic, .slice oa m oc]) (by simp [results, Tryz.results22, go_sem, j0, j1, j2, j3]) rfl ?_
          obtain ⟨V7, hV7⟩ : ∃ V, V = w6.alloc (.cells #[.int .i64 0, .string (str tx)] 33) := ⟨_, rfl⟩
          rw [← hV7] at hbt ⊢
          have hsz := HB6.out.size
          have hsz4 := HC4.out.size
          have hS4 := HS4.out
          have hcR : Chg V7 (four w.heap.size V7 (.int .i64 k) (.int .i64 f) (.slice ia n ic) (.slice oa m oc)) w.heap.size (w.heap.size + 1) := ((((Chg.refl _ _ _).setCell ⟨Nat.le_refl _, by omega⟩ _).setCell ⟨Nat.le_refl _, by omega⟩ _).setCell ⟨Nat.le_refl _, by omega⟩ _).setCell ⟨Nat.le_refl _, by omega⟩ _
          have hro : V7.ownsRow V3.heap.size 65 2 (.slice ia n ic) n (gcells rs) := HO6.out.1.kept (grown_of_below hbt) (by cases Value.ownBlock (.slice ia n ic) <;> simp)
          have hoo : OOwn V7 mid w4.heap.size (.slice oa m oc) m (fun q => os.getD q O0) kv := HO6.out.2.below hbt
          have hQ := HQ4.out
          have hmid := hQ.2.2.2.1
          have hmid2 := hQ.2.2.2.2
          obtain ⟨g0, rfl⟩ := row_some hro hn0
          obtain ⟨xs, hx1, _⟩ := hoo.row
          obtain ⟨g1, rfl⟩ := row_some hx1 hm0
          have hr2 := hcR.row hro (fun b hb => .inr (by have := (hro.lt b hb).1; omega))
          have ho2 := (hoo.chg hcR (.inr (by omega))).up (Nat.le_trans (Nat.le_trans (Nat.le_of_lt hl6) hbt.size) hcR.size)
          have hg0 := hQ.2.1 g0 rfl
          refine ⟨HB6.out.trans ((hbt.mono hsz).trans (hcR.below (Nat.le_refl _) (Nat.le_trans hsz hbt.size))), .inl ⟨⟨k, f, rs, os⟩, g0, ic, g1, oc, mid, kv, HPS.out, ?_, ?_⟩⟩
          · simp only [HNR.out, HMR.out]
          · simp only [HNR.out, HMR.out]
            exact ⟨Joins.ownsRow_le hr2 (by omega), hg0, ho2, by omega, Nat.le_trans hmid2 (Nat.le_trans (Nat.le_trans (Nat.le_of_lt hl6) hbt.size) hcR.size)⟩
        · have hE : ((str tx).toList == (str t).toList) = false := str_no (by
            intro e
            apply htx
            have := congrArg (fun b : ByteArray => b.data.toList) e
            simpa [str] using this)
          have HPN : Hid (parT t = none) := by
            show _ = _
            rw [HPX.out]
            refine kept_no fun x hx hfit => ?_
            cases hx
            have h1 := HTT.out
            unfold ttR at h1
            have q1 : txR k f rs os = 0 := hfit.1
            have q2 : txT k f rs os = t := hfit.2.1
            have q3 := hfit.2.2
            rw [if_neg (by simp [q1]), q2, if_neg (by omega)] at h1
            simp at h1
            exact htx h1.symm
          go_enter Tryz.func22, Tryz.ntmps22
          go_wp2_with (first
            | (go_at_call 42; (with_reducible refine hSp.mono ?_); clear hSp; rintro e w2 ⟨rfl, hw2⟩; have hw2' := hw2.symm; subst hw2')
            | (go_at_call 41; (with_reducible refine hRW2.mono ?_); clear hRW2; rintro e w4 ⟨ia, ic, oa, oc, kv, mid, rfl, HC4, HQ4⟩; rw [← hV3] at HC4 HQ4; have HB4 : Hid (Below w.heap.size w w4) := A1.out w4 HC4; have hbx : Below w4.heap.size w4 (w4.alloc (.cells #[.int .i64 k, .int .i64 f, .slice ia n ic, .slice oa m oc] 28)) := below_box _; have HB5 : Hid (Below w.heap.size w (w4.alloc (.cells #[.int .i64 k, .int .i64 f, .slice ia n ic, .slice oa m oc] 28))) := HB4.out.trans (hbx.mono HB4.out.size); have hTX := HTX.out _ ia ic oa oc kv mid HB5.out (HQ4.out.1.alloc _) ((HQ4.out.2.2.1.below hbx).up hbx.size); clear hbx)
            | (go_at_call 7; (with_reducible refine hTX.mono ?_); clear hTX; rintro e w6 ⟨rfl, hb6⟩; have HB6 : Hid (Below w.heap.size w w6) := HB5.out.trans (hb6.mono HB5.out.size); clear hb6))
          exact ⟨rfl, HB6.out.trans ((below_box _).mono HB6.out.size), .inr ⟨HPN.out, rfl⟩⟩
      · have hne : (cd == 0) = false := by simpa using hz
        have HPN : Hid (parT t = none) := by
          show _ = _
          rw [HPX.out]
          refine kept_no fun x hx hfit => ?_
          cases hx
          have h1 := HTT.out
          unfold ttR at h1
          have q1 : txR k f rs os = 0 := hfit.1
          have q2 : txT k f rs os = t := hfit.2.1
          have q3 := hfit.2.2
          rw [if_neg (by simp [q1]), q2, if_neg (by omega)] at h1
          simp at h1
          exact hz h1.1.symm
        go_enter Tryz.func22, Tryz.ntmps22
        go_wp2_with (first
          | (go_at_call 42; (with_reducible refine hSp.mono ?_); clear hSp; rintro e w2 ⟨rfl, hw2⟩; have hw2' := hw2.symm; subst hw2')
          | (go_at_call 41; (with_reducible refine hRW2.mono ?_); clear hRW2; rintro e w4 ⟨ia, ic, oa, oc, kv, mid, rfl, HC4, HQ4⟩; rw [← hV3] at HC4 HQ4; have HB4 : Hid (Below w.heap.size w w4) := A1.out w4 HC4; have hbx : Below w4.heap.size w4 (w4.alloc (.cells #[.int .i64 k, .int .i64 f, .slice ia n ic, .slice oa m oc] 28)) := below_box _; have HB5 : Hid (Below w.heap.size w (w4.alloc (.cells #[.int .i64 k, .int .i64 f, .slice ia n ic, .slice oa m oc] 28))) := HB4.out.trans (hbx.mono HB4.out.size); have hTX := HTX.out _ ia ic oa oc kv mid HB5.out (HQ4.out.1.alloc _) ((HQ4.out.2.2.1.below hbx).up hbx.size); clear hbx)
          | (go_at_call 7; (with_reducible refine hTX.mono ?_); clear hTX; rintro e w6 ⟨rfl, hb6⟩; have HB6 : Hid (Below w.heap.size w w6) := HB5.out.trans (hb6.mono HB5.out.size); clear hb6))
        exact ⟨rfl, HB6.out.trans ((below_box _).mono HB6.out.size), .inr ⟨HPN.out, rfl⟩⟩

end Go.Proofs.YtciefdphjkjikaaGreatDoor
