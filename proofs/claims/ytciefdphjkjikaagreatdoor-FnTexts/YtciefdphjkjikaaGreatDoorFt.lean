/- A transaction's text is drawn, and bent by a sign or cut. -/
import Derived.Test.YtciefdphjkjikaaGreatDoorFl
import Derived.Test.YtciefdphjkjikaaGreatDoorJn3
namespace Go.Proofs.YtciefdphjkjikaaGreatDoor
open Go.RowKit Go.Shelf Go.Maps Go.WideMaps

/-- Bytes of one's own in block b, the source in block SB. -/
structure Pt (w v : World) (SB : Nat) (ca : Option Addr) (cn cc t b : Nat) (bs : List UInt8) : Prop where
  src : Src w v SB ca cn cc t
  c : ∀ j, j < bs.length → v.cell? ⟨b, j, none⟩ = some (.int .u8 ((bs.getD j 0).toNat : Int)) ∧ v.frozen? ⟨b, j, none⟩ = false
  ord : SB < b ∧ b < v.heap.size
section
variable {w v v' : World} {SB : Nat} {ca : Option Addr} {cn cc t t' b : Nat} {bs : List UInt8}
theorem Pt.step (H : Pt w v SB ca cn cc t b bs) (hb : Below v.heap.size v v') : Pt w v' SB ca cn cc t b bs :=
  ⟨H.src.step hb, fun j hj => ⟨(hb.cell (p := ⟨b, j, none⟩) H.ord.2).trans (H.c j hj).1, by
    have := (H.c j hj).2
    unfold World.frozen? at this ⊢
    rw [hb.block b H.ord.2]
    exact this⟩, H.ord.1, Nat.lt_of_lt_of_le H.ord.2 hb.size⟩
theorem Pt.draw (H : Pt w v SB ca cn cc t b bs) (hS : Src w v' SB ca cn cc t') (hc : Chg v v' SB (SB + 1)) : Pt w v' SB ca cn cc t' b bs := by
  have ho := H.ord
  have hk := hc.block b ho.2 (by omega)
  refine ⟨hS, fun j hj => ⟨(World.cell?_of_block hk).trans (H.c j hj).1, ?_⟩, ho.1, Nat.lt_of_lt_of_le ho.2 hc.size⟩
  have := (H.c j hj).2
  unfold World.frozen? at this ⊢
  rw [hk]
  exact this
theorem Pt.set (H : Pt w v SB ca cn cc t b bs) {i : Nat} (hi : i < bs.length) (x : UInt8) : Pt w (v.setCell ⟨b, i, none⟩ (.int .u8 (x.toNat : Int))) SB ca cn cc t b (bs.set i x) := by
  have ho := H.ord
  have hsb := H.src.sb
  refine ⟨⟨(Below.heap_setCell _ ⟨b, i, none⟩ _ SB (show SB ≠ b by omega)).trans H.src.box, H.src.bel.setCell (p := ⟨b, i, none⟩) (show w.heap.size ≤ b by omega) _, hsb⟩, fun j hj => ?_, ho.1, by simpa using ho.2⟩
  rw [List.length_set] at hj
  refine ⟨?_, by rw [World.frozen?_setCell]; exact (H.c j hj).2⟩
  by_cases e : j = i
  · subst e
    rw [World.cell?_setCell_same _ _ _ (H.c j hj).1]
    simp [List.getD, hj]
  · rw [World.cell?_setCell_other _ _ _ _ (by intro e2; cases e2; exact e rfl), (H.c j hj).1]
    simp [List.getD, Ne.symm e]
theorem Pt.conv (H : Pt w v SB ca cn cc t b bs) (n cap : Nat) (hn : n ≤ bs.length) : (convert 22 9 (.slice (some ⟨b, 0, none⟩) n cap)).run Tryz.prog v = .ok (.string (str (bs.take n))) v := by
  have := run_convert_bytes_arg v 22 5 Tryz.underlying22 Tryz.underlying5 b 0 n cap ((bs.take n).map fun b => (b.toNat : Int)) (by simp; omega) (fun i hi => by
    have e := (H.c i (by omega)).1
    rw [Nat.zero_add, e]
    simp [List.getD, hi, show i < bs.length by omega]) 9 Tryz.underlying9
  rw [this]
  have e : strOfNums ((bs.take n).map fun b => (b.toNat : Int)) = str (bs.take n) := by
    simp [strOfNums, str, Function.comp_def]
  rw [e]
theorem Pt.start (h : Src w v SB ca cn cc t) (tx : List UInt8) : Pt w (Lib.bytesWorld v 5 (str tx)) SB ca cn cc t v.heap.size tx := by
  have S := SwAt.start v tx
  refine ⟨h.step (bytes_below _ _ _), fun j hj => ⟨by rw [S.c j hj, if_neg (by omega)], S.f j hj⟩, h.lt, ?_⟩
  rw [Lib.bytesWorld_size]
  omega
end
theorem dec_few {k : Int} (h0 : 0 ≤ k) (h : k ≤ 199) : (dec k).length ≤ 3 ∧ 1 ≤ (dec k).length := by
  obtain ⟨n, rfl⟩ := Int.eq_ofNat_of_zero_le h0
  have hn : n < 200 := by omega
  exact (of_decide_eq_true (by kernel_rfl) : ∀ m, m < 200 → (dec ((m : Nat) : Int)).length ≤ 3 ∧ 1 ≤ (dec ((m : Nat) : Int)).length) n hn
theorem tail_few {l : List Int} (hk : ∀ k ∈ l, 0 ≤ k ∧ k ≤ 199) : (tailT l).length ≤ 4 * l.length := by
  induction l with
  | nil => simp [tailT]
  | cons a t ih =>
    have h1 := dec_few (hk a (by simp)).1 (hk a (by simp)).2
    have h2 := ih fun k hk' => hk k (by simp [hk'])
    simp [tailT]; omega
theorem rtx_few {l : List Int} {x y : Int} (h : KR l x y) : (rtxR l x y).length ≤ 32 := by
  obtain ⟨⟨h1, h3⟩, hk, hx, hy⟩ := h
  have hdx := dec_few (k := x) (by omega) (by omega)
  have hdy := dec_few (k := y) (by omega) (by omega)
  have c : (keysT l).length ≤ 12 := by
    cases l with
    | nil => simp [keysT]
    | cons k l' =>
      have e := dec_few (k := k) (by have := hk k (by simp); omega) (by have := hk k (by simp); omega)
      have f := tail_few (l := l') (fun q hq => by have := hk q (by simp [hq]); omega)
      simp only [keysT, List.length_append, List.length_cons] at *
      omega
  have d : (aftT y).length ≤ 10 := by
    unfold aftT
    by_cases e : y = 0
    · rw [if_pos e]; simp
    · rw [if_neg e]; simp; omega
  unfold rtxR
  simp only [List.length_append, List.length_cons, List.length_nil]
  omega
theorem txOk_drawn {k f : Int} {rs : List (Int × Int)} {os : List Ou} (h : KTx k f rs os) : TxOk k f rs os := by
  obtain ⟨⟨h1, h2, h3, h4⟩, ⟨⟨h5, h6⟩, h7, h8⟩, ⟨h9, h10⟩, h11⟩ := h
  refine ⟨h1, ⟨h3, by omega⟩, by omega, by omega, fun j hj => ?_, fun j hj => ?_⟩
  · have := h8 _ (getD_mem (d := G0) hj)
    omega
  · obtain ⟨a, ⟨b1, b2⟩, c, d, e⟩ := h11 _ (getD_mem (d := O0) hj)
    exact ⟨by omega, ⟨by omega, by omega⟩, by omega, by omega, fun i hi => by have := c _ (getD_mem (d := 0) hi); omega⟩
theorem outs_lenF {os : List Ou} (h : KOuts os) : (os.flatMap outT).length ≤ 37 * os.length := by
  induction os with
  | nil => simp
  | cons o t ih =>
    have h1 := ih fun x hx => h x (List.mem_cons_of_mem _ hx)
    obtain ⟨a, b⟩ := h o (by simp)
    have h2 := dec_few (k := o.v) (by omega) (by omega)
    have h3 := rtx_few b
    simp only [List.flatMap_cons, outT, List.length_append, List.length_cons, List.length_map]
    omega
theorem refT_few {r : Int × Int} (h : (1 ≤ r.1 ∧ r.1 ≤ 6) ∧ 0 ≤ r.2 ∧ r.2 ≤ 1) : (refT r).length ≤ 7 := by
  have h1 := dec_few (k := r.1) (by omega) (by omega)
  have h2 := dec_few (k := r.2) (by omega) (by omega)
  simp only [refT, List.length_append, List.length_cons]
  omega
theorem txT_size {k f : Int} {rs : List (Int × Int)} {os : List Ou} (h : KTx k f rs os) : (txT k f rs os).length ≤ 200 ∧ 4 ≤ (txT k f rs os).length := by
  obtain ⟨⟨h1, h2, h3, h4⟩, ⟨⟨h5, h6⟩, h7, h8⟩, ⟨h9, h10⟩, h11⟩ := h
  have hd := dec_few (k := f) h3 (by omega)
  have ho := outs_lenF h11
  have hh : (headT k f).length ≤ 9 ∧ 3 ≤ (headT k f).length := by
    unfold headT kindT
    rcases h1 with rfl | rfl | rfl <;> simp <;> omega
  have hr : (refsT rs).length ≤ 16 ∧ 1 ≤ (refsT rs).length := by
    match rs, h5, h6, h8 with
    | [a], _, _, h => have := refT_few (h a (by simp)); simp [refsT]; omega
    | [a, b], _, _, h => have := refT_few (h a (by simp)); have := refT_few (h b (by simp)); simp [refsT]; omega
  unfold txT
  simp only [List.length_append]
  omega

set_option maxRecDepth 20000 in
set_option maxHeartbeats 4000000 in
theorem drawParseTx_any (cn cc : Nat) (ca : Option Addr) (l0 : List Int) (w : World) (hcn : cn ≤ 1048576) (hB : BAt w ca cn l0) :
    Calls Tryz.prog 5 #[.slice ca cn cc] w fun e w' => ∃ t : List UInt8, e = .returned (.string (str t)) ∧ t.length ≤ 200 ∧ Hid (Below w.heap.size w w') := by
  have h1 := l1Source_any ca cn cc w
  have HBA : Hid (BAt w ca cn l0) := hB
  clear hB
  go_enter Tryz.func5, Tryz.ntmps5
  go_wp2_with (first
    | (go_at_call 16; (with_reducible refine h1.mono ?_); clear h1; rintro e v1 ⟨rfl, hS1⟩; have h2 := l3Draw_any w.heap.size cn cc 0 ca l0 w v1 (by omega) hcn HBA.out hS1; have hl1 := hS1.lt; clear hS1)
    | (go_at_call 17; (with_reducible refine h2.mono ?_); clear h2; rintro e v2 ⟨k, f, ia, ic, rs, oa, oc, os, t2, rfl, ht2, HK, HO⟩; have hbx : Below v2.heap.size v2 (v2.alloc (.cells #[.int .i64 k, .int .i64 f, .slice ia rs.length ic, .slice oa os.length oc] 28)) := below_box _; have HOK : Hid (TxOk k f rs os) := txOk_drawn HK.out; obtain ⟨p0, p1, p2, p3, _⟩ := cells4 (heap_alloc_new v2 (.cells #[.int .i64 k, .int .i64 f, .slice ia rs.length ic, .slice oa os.length oc] 28)); have h3 := l3Text_any v2.heap.size rs.length ic os.length oc ia oa k f rs os (v2.alloc (.cells #[.int .i64 k, .int .i64 f, .slice ia rs.length ic, .slice oa os.length oc] 28)) HOK.out ((HO.out.at (fun o ho => by have := (HK.out.2.2.2 o ho).2.1; omega)).below hbx (Nat.le_refl _)) (by simp) p0 p1 p2 p3; have HS3 : Hid (Src w (v2.alloc (.cells #[.int .i64 k, .int .i64 f, .slice ia rs.length ic, .slice oa os.length oc] 28)) w.heap.size ca cn cc t2) := HO.out.src.step hbx; have HLN : Hid ((txT k f rs os).length ≤ 200 ∧ 4 ≤ (txT k f rs os).length) := txT_size HK.out; obtain ⟨tx, htx⟩ : ∃ q, q = txT k f rs os := ⟨_, rfl⟩; rw [← htx] at h3 HLN; clear hbx htx HK HO)
    | (go_at_call 18; (with_reducible refine h3.mono ?_); clear h3; rintro e v3 ⟨rfl, hb3⟩; have HS4 : Hid (Src w v3 w.heap.size ca cn cc t2) := HS3.out.step hb3; obtain ⟨W0, hW0⟩ : ∃ W0, W0 = Lib.bytesWorld v3 5 (str tx) := ⟨_, rfl⟩; obtain ⟨cap, hcap⟩ : ∃ c, c = grownCap v3 (str tx).size 0 5 := ⟨_, rfl⟩; have hcg : tx.length ≤ cap := (by rw [hcap]; exact grownCap_ge v3 (str tx).size 0 5); have hcv := Lib.run_convert_string_bytes v3 9 22 5 (str tx) Tryz.underlying9 Tryz.underlying22 Tryz.underlying5; have HP0 : Hid (Pt w W0 w.heap.size ca cn cc t2 v3.heap.size tx) := (by rw [hW0]; exact Pt.start HS4.out tx); rw [← hcap, ← hW0] at hcv; obtain ⟨n, hn⟩ : ∃ n, n = tx.length := ⟨_, rfl⟩; have hsz : (str tx).size = n := hn.symm; rw [hsz] at hcv; have HN : Hid (tx.length = n) := hn.symm; have hn2 := HLN.out; rw [← hn] at hn2 hcg; have h4 := l1Next_any w.heap.size cn cc t2 ca l0 5 w W0 (by omega) (by omega) hcn HBA.out HP0.out.src; clear hb3 hW0 hcap hn hsz)
    | (go_at_call 19; have hq := h4; clear h4; (with_reducible refine hq.mono ?_); clear hq; rintro e v5 ⟨r5, rfl, ⟨a5, b5⟩, hS5, hc5⟩; have HP5 : Hid (Pt w v5 w.heap.size ca cn cc (t2 + 1) v3.heap.size tx) := HP0.out.draw hS5 hc5; clear hcv b5 hS5 hc5; have hcb := HP5.out.conv n cap (by rw [HN.out]; exact Nat.le_refl _); have h5 := l1Next_any w.heap.size cn cc (t2 + 1) ca l0 n w v5 (by omega) (by omega) hcn HBA.out HP5.out.src)
    | (go_at_call 19; have hq := h5; clear h5; (with_reducible refine hq.mono ?_); clear hq; rintro e v6 ⟨r6, rfl, ⟨a6, b6⟩, hS6, hc6⟩; have b6' : r6 < n := b6 (by omega); obtain ⟨i, rfl⟩ := Int.eq_ofNat_of_zero_le a6; have hin : i < n := (by omega); have hki : (i : Int) < (n : Int) := (by omega); have hkc : (i : Int) ≤ (cap : Int) := (by omega); have hkc2 : i ≤ cap := (by omega); have HP6 : Hid (Pt w v6 w.heap.size ca cn cc (t2 + 1 + 1) v3.heap.size tx) := HP5.out.draw hS6 hc6; clear hcb b6 hS6 hc6; have hcb6 := HP6.out.conv i cap (by rw [HN.out]; omega); have hl6 := HP6.out.src.lt; have h6 := l1Pick_any w.heap.size cn cc (t2 + 1 + 1) 5 5 ca (some ⟨v6.heap.size, 0, none⟩) l0 [48, 32, 57, 95, 58] w (v6.alloc (.cells #[.int .i64 48, .int .i64 32, .int .i64 57, .int .i64 95, .int .i64 58] 2)) (by omega) (by omega) (by omega) hcn HBA.out (HP6.out.src.step (below_box _)) (iatK5 v6 48 32 57 95 58) (fun b off e => (by cases e; omega)))
    | (go_at_call 20; (with_reducible refine h6.mono ?_); clear h6; rintro e v7 ⟨z, rfl, hz, hS7, hc7⟩; have HP7 : Hid (Pt w v7 w.heap.size ca cn cc (t2 + 1 + 1 + 1) v3.heap.size tx) := (HP6.out.step (below_box (.cells #[.int .i64 48, .int .i64 32, .int .i64 57, .int .i64 95, .int .i64 58] 2))).draw hS7 hc7; obtain ⟨zb, hzb⟩ : ∃ x : UInt8, (x.toNat : Int) = z := (by simp at hz; rcases hz with rfl | rfl | rfl | rfl | rfl <;> first | exact ⟨48, rfl⟩ | exact ⟨32, rfl⟩ | exact ⟨57, rfl⟩ | exact ⟨95, rfl⟩ | exact ⟨58, rfl⟩); subst hzb; have hwz : IntKind.u8.wrap (zb.toNat : Int) = (zb.toNat : Int) := (by have := zb.toNat_lt; simp [IntKind.wrap, IntKind.bits, IntKind.signed]; omega); obtain ⟨k7, f7⟩ := HP7.out.c i (by rw [HN.out]; exact hin); have HP8 : Hid (Pt w (v7.setCell ⟨v3.heap.size, i, none⟩ (.int .u8 (zb.toNat : Int))) w.heap.size ca cn cc (t2 + 1 + 1 + 1) v3.heap.size (tx.set i zb)) := HP7.out.set (by rw [HN.out]; exact hin) zb; have hcb7 := HP8.out.conv n cap (by rw [List.length_set, HN.out]; exact Nat.le_refl _); clear hz hS7 hc7))
  all_goals go_ret
  all_goals first
    | exact ⟨_, rfl, by rw [List.length_take, List.length_set]; omega, HP8.out.src.bel⟩
    | exact ⟨_, rfl, by rw [List.length_take]; omega, HP6.out.src.bel⟩
    | exact ⟨_, rfl, by rw [List.length_take]; omega, HP5.out.src.bel⟩

end Go.Proofs.YtciefdphjkjikaaGreatDoor
