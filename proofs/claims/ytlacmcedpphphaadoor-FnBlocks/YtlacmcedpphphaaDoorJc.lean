/- What the law on blocks draws: a block, a height, a text. -/
import Derived.Test.YtlacmcedpphphaaDoorJb
import Derived.Test.YtlacmcedpphphaaDoorTtS
namespace Go.Proofs.YtlacmcedpphphaaDoor
open Go.RowKit Go.Shelf Go.Maps Go.WideMaps

theorem BAt.below {w w' : World} {a : Option Addr} {n : Nat} {l : List Int} (h : BAt w a n l) (hb : Below w.heap.size w w') : BAt w' a n l := by
  refine ⟨h.1, ?_⟩
  rcases h.2 with h0 | ⟨b, off, rfl, hl, hc⟩
  · exact .inl h0
  · exact .inr ⟨b, off, rfl, Nat.lt_of_lt_of_le hl hb.size, fun j hj => (hb.cell (p := ⟨b, off + j, none⟩) hl).trans (hc j hj)⟩

/-- Some block, its numbers in memory of its own; all that was there as it was. -/
def OutBk (w w' : World) (e : Ending) : Prop := ∃ (p h m : Int) (l : List Int) (va : Option Addr) (vc : Nat), e = .returned (.agg #[.int .i64 p, .int .i64 h, .int .i64 m, .slice va l.length vc]) ∧ Hid (w'.ownsRow w.heap.size 2 1 (.slice va l.length vc) l.length (ints l)) ∧ l.length ≤ 7 ∧ Hid (Below w.heap.size w w')

set_option maxRecDepth 20000 in
set_option maxHeartbeats 1000000 in
theorem drawBlock_any (cn cc : Nat) (ca : Option Addr) (l0 : List Int) (w : World) (hcn : cn ≤ 1048576) (hB : BAt w ca cn l0) :
    Calls Tryd.prog 9 #[.slice ca cn cc] w fun e w' => OutBk w w' e := by
  have hbx : Below w.heap.size w (w.alloc (.cells #[.int .i64 0, .int .i64 0, .int .i64 0, .slice none 0 0] 27)) := below_box _
  have HR1 : Hid ((w.alloc (.cells #[.int .i64 0, .int .i64 0, .int .i64 0, .slice none 0 0] 27)).heap[w.heap.size]? = some (.cells #[.int .i64 0, .int .i64 0, .int .i64 0, .slice none 0 0] 27 (0, 0))) := heap_alloc_new _ _
  have h1 := l1Source_any ca cn cc (w.alloc (.cells #[.int .i64 0, .int .i64 0, .int .i64 0, .slice none 0 0] 27))
  obtain ⟨SB, hSB⟩ : ∃ n, n = (w.alloc (.cells #[.int .i64 0, .int .i64 0, .int .i64 0, .slice none 0 0] 27)).heap.size := ⟨_, rfl⟩
  rw [← hSB] at h1
  have HSB : Hid (SB = w.heap.size + 1) := by show _ = _; rw [hSB]; simp
  clear hSB
  have HBA : Hid (BAt (w.alloc (.cells #[.int .i64 0, .int .i64 0, .int .i64 0, .slice none 0 0] 27)) ca cn l0) := hB.below hbx
  clear hB hbx
  go_enter Tryd.func9, Tryd.ntmps9
  go_wp2_with (first
    | (go_at_call 16; (with_reducible refine h1.mono ?_); clear h1; rintro e v1 ⟨rfl, hS1⟩; have h2 := l7Bent_any SB cn cc 0 ca l0 (w.alloc (.cells #[.int .i64 0, .int .i64 0, .int .i64 0, .slice none 0 0] 27)) v1 (by omega) hcn HBA.out hS1; have HS1 : Hid (Src (w.alloc (.cells #[.int .i64 0, .int .i64 0, .int .i64 0, .slice none 0 0] 27)) v1 SB ca cn cc 0) := hS1; clear hS1)
    | (go_at_call 26; (with_reducible refine h2.mono ?_); clear h2; rintro e v2 ⟨p, h, m, l, va, vc, t2, rfl, HO, HK, _, HS2, HC2⟩; have HR2 : Hid (v2.heap[w.heap.size]? = some (.cells #[.int .i64 0, .int .i64 0, .int .i64 0, .slice none 0 0] 27 (0, 0))) := (HS2.out.bel.block w.heap.size (by simp)).trans HR1.out; obtain ⟨c0, c1, c2, c3, f0, f1, f2, f3⟩ := cells4 HR2.out))
  obtain ⟨j0, j1, j2, j3⟩ := four_set HR2.out (.int .i64 p) (.int .i64 h) (.int .i64 m) (.slice va l.length vc)
  have hs1 := HS1.out.lt
  have hl : l.length ≤ 7 := HK.out
  have hb2 : Below w.heap.size w v2 := (below_box (.cells #[.int .i64 0, .int .i64 0, .int .i64 0, .slice none 0 0] 27)).trans (HS2.out.bel.mono (by simp))
  rw [HSB.out] at hs1
  refine bodyPost_ret (v := .agg #[.int .i64 p, .int .i64 h, .int .i64 m, .slice va l.length vc]) (by simp [results, Tryd.results9, go_sem, j0, j1, j2, j3]) rfl ⟨p, h, m, l, va, vc, rfl, row_res4 HO.out (by omega) (by omega) _ _ _ _, hl, ?_⟩
  exact (((hb2.setCell (p := ⟨w.heap.size, 0, none⟩) (Nat.le_refl _) _).setCell (p := ⟨w.heap.size, 1, none⟩) (Nat.le_refl _) _).setCell (p := ⟨w.heap.size, 2, none⟩) (Nat.le_refl _) _).setCell (p := ⟨w.heap.size, 3, none⟩) (Nat.le_refl _) _

set_option maxRecDepth 20000 in
set_option maxHeartbeats 1000000 in
theorem drawReward_any (cn cc : Nat) (ca : Option Addr) (l0 : List Int) (w : World) (hcn : cn ≤ 1048576) (hB : BAt w ca cn l0) :
    Calls Tryd.prog 12 #[.slice ca cn cc] w fun e w' => ∃ z : Int, e = .returned (.int .i64 z) ∧ (0 ≤ z ∧ z ≤ 41) ∧ Hid (Below w.heap.size w w') := by
  have h1 := l1Source_any ca cn cc w
  have HBA : Hid (BAt w ca cn l0) := hB
  clear hB
  go_enter Tryd.func12, Tryd.ntmps12
  go_wp2_with (first
    | (go_at_call 16; (with_reducible refine h1.mono ?_); clear h1; rintro e v1 ⟨rfl, hS1⟩; have h2 := l1Next_any w.heap.size cn cc 0 ca l0 40 w v1 (by omega) (by omega) hcn HBA.out hS1; clear hS1)
    | (go_at_call 19; have hq := h2; clear h2; (with_reducible refine hq.mono ?_); clear hq; rintro e v2 ⟨r1, rfl, ⟨a1, b1⟩, hS2, hc2⟩; have b1' : r1 < 40 := b1 (by omega); clear b1 hc2; have hw1 := IntWalk.i64_in (1 + r1) (by omega); have h3 := l1Next_any w.heap.size cn cc (0 + 1) ca l0 40 w v2 (by omega) (by omega) hcn HBA.out hS2; clear hS2)
    | (go_at_call 19; have hq := h3; clear h3; (with_reducible refine hq.mono ?_); clear hq; rintro e v3 ⟨r2, rfl, ⟨a2, b2⟩, hS3, hc3⟩; have b2' : r2 < 40 := b2 (by omega); clear b2 hc3; have hw2 := IntWalk.i64_in (1 + r2) (by omega); have hl3 := hS3.lt; have h4 := l1Pick_any w.heap.size cn cc (0 + 1 + 1) 4 4 ca (some ⟨v3.heap.size, 0, none⟩) l0 [1 + r1, 1 + r2, 41, 0] w (v3.alloc (.cells #[.int .i64 (1 + r1), .int .i64 (1 + r2), .int .i64 41, .int .i64 0] 2)) (by omega) (by omega) (by omega) hcn HBA.out (hS3.step (below_box _)) (iat4 v3 (1 + r1) (1 + r2) 41 0) (fun b off e => (by cases e; omega)); clear hS3)
    | (go_at_call 20; (with_reducible refine h4.mono ?_); clear h4; rintro e v4 ⟨z, rfl, hz, hS4, hc4⟩; have HB4 : Hid (Below w.heap.size w v4) := hS4.bel; have hz2 : 0 ≤ z ∧ z ≤ 41 := (by simp at hz; omega); clear hS4 hc4 hz))
  go_ret
  exact ⟨_, rfl, hz2, HB4.out⟩

/-- Bytes of one's own, the source beside them. -/
structure Pz (w v : World) (SB : Nat) (ca : Option Addr) (cn cc t b : Nat) (bs : List UInt8) : Prop where
  src : Src w v SB ca cn cc t
  c : ∀ j, j < bs.length → v.cell? ⟨b, j, none⟩ = some (.int .u8 ((bs.getD j 0).toNat : Int)) ∧ v.frozen? ⟨b, j, none⟩ = false
  ord : SB < b ∧ b < v.heap.size
section
variable {w v v' : World} {SB : Nat} {ca : Option Addr} {cn cc t t' b : Nat} {bs : List UInt8}
theorem Pz.step (H : Pz w v SB ca cn cc t b bs) (hb : Below v.heap.size v v') : Pz w v' SB ca cn cc t b bs :=
  ⟨H.src.step hb, fun j hj => ⟨(hb.cell (p := ⟨b, j, none⟩) H.ord.2).trans (H.c j hj).1, by
    have := (H.c j hj).2
    unfold World.frozen? at this ⊢
    rw [hb.block b H.ord.2]
    exact this⟩, H.ord.1, Nat.lt_of_lt_of_le H.ord.2 hb.size⟩
theorem Pz.draw (H : Pz w v SB ca cn cc t b bs) (hS : Src w v' SB ca cn cc t') (hc : Chg v v' SB (SB + 1)) : Pz w v' SB ca cn cc t' b bs := by
  have ho := H.ord
  have hk := hc.block b ho.2 (by omega)
  refine ⟨hS, fun j hj => ⟨(World.cell?_of_block hk).trans (H.c j hj).1, ?_⟩, ho.1, Nat.lt_of_lt_of_le ho.2 hc.size⟩
  have := (H.c j hj).2
  unfold World.frozen? at this ⊢
  rw [hk]
  exact this
theorem Pz.set (H : Pz w v SB ca cn cc t b bs) {i : Nat} (hi : i < bs.length) (x : UInt8) : Pz w (v.setCell ⟨b, i, none⟩ (.int .u8 (x.toNat : Int))) SB ca cn cc t b (bs.set i x) := by
  have ho := H.ord
  have hsb := H.src.sb
  refine ⟨⟨(Below.heap_setCell _ ⟨b, i, none⟩ _ SB (show SB ≠ b by omega)).trans H.src.box, H.src.bel.setCell (p := ⟨b, i, none⟩) (show w.heap.size ≤ b by omega) _, hsb⟩, fun j hj => ?_, ho.1, by simpa using ho.2⟩
  rw [List.length_set] at hj
  refine ⟨?_, by rw [World.frozen?_setCell]; exact (H.c j hj).2⟩
  by_cases e : j = i
  · subst e
    rw [World.cell?_setCell_same _ _ _ (H.c j hj).1]
    simp [List.getD, hj]
  · rw [World.cell?_setCell_other _ _ _ _ (by intro e2; cases e2; exact e rfl), (H.c j hj).1]
    simp [List.getD, Ne.symm e]
theorem Pz.conv (H : Pz w v SB ca cn cc t b bs) (n cap : Nat) (hn : n ≤ bs.length) : (convert 22 9 (.slice (some ⟨b, 0, none⟩) n cap)).run Tryd.prog v = .ok (.string (str (bs.take n))) v := by
  have := run_convert_bytes_arg v 22 5 Tryd.underlying22 Tryd.underlying5 b 0 n cap ((bs.take n).map fun b => (b.toNat : Int)) (by simp; omega) (fun i hi => by
    have e := (H.c i (by omega)).1
    rw [Nat.zero_add, e]
    simp [List.getD, hi, show i < bs.length by omega]) 9 Tryd.underlying9
  rw [this]
  have e : strOfNums ((bs.take n).map fun b => (b.toNat : Int)) = str (bs.take n) := by
    simp [strOfNums, str, Function.comp_def]
  rw [e]
theorem Pz.start (h : Src w v SB ca cn cc t) (tx : List UInt8) : Pz w (Lib.bytesWorld v 5 (str tx)) SB ca cn cc t v.heap.size tx := by
  have S := SwAt.start v tx
  refine ⟨h.step (bytes_below _ _ _), fun j hj => ⟨by rw [S.c j hj, if_neg (by omega)], S.f j hj⟩, h.lt, ?_⟩
  rw [Lib.bytesWorld_size]
  omega
end
theorem blT_pos (p h m : Int) (l : List Int) : 6 ≤ (blT p h m l).length := by
  unfold blT blHd
  simp
  try omega

set_option maxRecDepth 20000 in
set_option maxHeartbeats 4000000 in
theorem drawText_any (cn cc : Nat) (ca : Option Addr) (l0 : List Int) (w : World) (hcn : cn ≤ 1048576) (hB : BAt w ca cn l0) :
    Calls Tryd.prog 5 #[.slice ca cn cc] w fun e w' => ∃ t : List UInt8, e = .returned (.string (str t)) ∧ t.length ≤ 200 ∧ Hid (Below w.heap.size w w') := by
  have h1 := l1Source_any ca cn cc w
  have HBA : Hid (BAt w ca cn l0) := hB
  clear hB
  go_enter Tryd.func5, Tryd.ntmps5
  go_wp2_with (first
    | (go_at_call 16; (with_reducible refine h1.mono ?_); clear h1; rintro e v1 ⟨rfl, hS1⟩; have h2 := l7Draw_any w.heap.size cn cc 0 ca l0 w v1 (by omega) hcn HBA.out hS1; have hl1 := hS1.lt; clear hS1)
    | (go_at_call 17; (with_reducible refine h2.mono ?_); clear h2; rintro e v2 ⟨p, h, m, l, va, vc, t2, rfl, HO, HK, ht2, HS2, HC2⟩; have hbx : Below v2.heap.size v2 (v2.alloc (.cells #[.int .i64 p, .int .i64 h, .int .i64 m, .slice va l.length vc] 27)) := below_box _; have h3 := l7Text_any v2.heap.size l.length vc va p h m l (v2.alloc (.cells #[.int .i64 p, .int .i64 h, .int .i64 m, .slice va l.length vc] 27)) HK.out.1 (iat_row (HO.out.alloc _) rfl) (heap_alloc_new _ _); have HS3 : Hid (Src w (v2.alloc (.cells #[.int .i64 p, .int .i64 h, .int .i64 m, .slice va l.length vc] 27)) w.heap.size ca cn cc t2) := HS2.out.step hbx; have HLN : Hid ((blT p h m l).length ≤ 200 ∧ 6 ≤ (blT p h m l).length) := ⟨bl_len HK.out.1, blT_pos _ _ _ _⟩; obtain ⟨tx, htx⟩ : ∃ x, x = blT p h m l := ⟨_, rfl⟩; rw [← htx] at h3 HLN; clear hbx htx)
    | (go_at_call 18; (with_reducible refine h3.mono ?_); clear h3; rintro e v3 ⟨rfl, hb3⟩; have HS4 : Hid (Src w v3 w.heap.size ca cn cc t2) := HS3.out.step hb3; obtain ⟨W0, hW0⟩ : ∃ W0, W0 = Lib.bytesWorld v3 5 (str tx) := ⟨_, rfl⟩; obtain ⟨cap, hcap⟩ : ∃ c, c = grownCap v3 (str tx).size 0 5 := ⟨_, rfl⟩; have hcg : tx.length ≤ cap := (by rw [hcap]; exact grownCap_ge v3 (str tx).size 0 5); have hcv := Lib.run_convert_string_bytes v3 9 22 5 (str tx) Tryd.underlying9 Tryd.underlying22 Tryd.underlying5; have HP0 : Hid (Pz w W0 w.heap.size ca cn cc t2 v3.heap.size tx) := (by rw [hW0]; exact Pz.start HS4.out tx); rw [← hcap, ← hW0] at hcv; obtain ⟨n, hn⟩ : ∃ n, n = tx.length := ⟨_, rfl⟩; have hsz : (str tx).size = n := hn.symm; rw [hsz] at hcv; have HN : Hid (tx.length = n) := hn.symm; have hn2 := HLN.out; rw [← hn] at hn2 hcg; have h4 := l1Next_any w.heap.size cn cc t2 ca l0 5 w W0 (by omega) (by omega) hcn HBA.out HP0.out.src; clear hb3 hW0 hcap hn hsz)
    | (go_at_call 19; have hq := h4; clear h4; (with_reducible refine hq.mono ?_); clear hq; rintro e v5 ⟨r5, rfl, ⟨a5, b5⟩, hS5, hc5⟩; have HP5 : Hid (Pz w v5 w.heap.size ca cn cc (t2 + 1) v3.heap.size tx) := HP0.out.draw hS5 hc5; clear hcv b5 hS5 hc5; have hcb := HP5.out.conv n cap (by rw [HN.out]; exact Nat.le_refl _); have h5 := l1Next_any w.heap.size cn cc (t2 + 1) ca l0 n w v5 (by omega) (by omega) hcn HBA.out HP5.out.src)
    | (go_at_call 19; have hq := h5; clear h5; (with_reducible refine hq.mono ?_); clear hq; rintro e v6 ⟨r6, rfl, ⟨a6, b6⟩, hS6, hc6⟩; have b6' : r6 < n := b6 (by omega); obtain ⟨i, rfl⟩ := Int.eq_ofNat_of_zero_le a6; have hin : i < n := (by omega); have hki : (i : Int) < (n : Int) := (by omega); have hkc : (i : Int) ≤ (cap : Int) := (by omega); have hkc2 : i ≤ cap := (by omega); have HP6 : Hid (Pz w v6 w.heap.size ca cn cc (t2 + 1 + 1) v3.heap.size tx) := HP5.out.draw hS6 hc6; clear hcb b6 hS6 hc6; have hcb6 := HP6.out.conv i cap (by rw [HN.out]; omega); have hl6 := HP6.out.src.lt; have h6 := l1Pick_any w.heap.size cn cc (t2 + 1 + 1) 4 4 ca (some ⟨v6.heap.size, 0, none⟩) l0 [48, 32, 57, 43] w (v6.alloc (.cells #[.int .i64 48, .int .i64 32, .int .i64 57, .int .i64 43] 2)) (by omega) (by omega) (by omega) hcn HBA.out (HP6.out.src.step (below_box _)) (iat4 v6 48 32 57 43) (fun b off e => (by cases e; omega)))
    | (go_at_call 20; (with_reducible refine h6.mono ?_); clear h6; rintro e v7 ⟨z, rfl, hz, hS7, hc7⟩; have HP7 : Hid (Pz w v7 w.heap.size ca cn cc (t2 + 1 + 1 + 1) v3.heap.size tx) := (HP6.out.step (below_box (.cells #[.int .i64 48, .int .i64 32, .int .i64 57, .int .i64 43] 2))).draw hS7 hc7; obtain ⟨zb, hzb⟩ : ∃ x : UInt8, (x.toNat : Int) = z := (by simp at hz; rcases hz with rfl | rfl | rfl | rfl <;> first | exact ⟨48, rfl⟩ | exact ⟨32, rfl⟩ | exact ⟨57, rfl⟩ | exact ⟨43, rfl⟩); subst hzb; have hwz : IntKind.u8.wrap (zb.toNat : Int) = (zb.toNat : Int) := (by have := zb.toNat_lt; simp [IntKind.wrap, IntKind.bits, IntKind.signed]; omega); obtain ⟨k7, f7⟩ := HP7.out.c i (by rw [HN.out]; exact hin); have HP8 : Hid (Pz w (v7.setCell ⟨v3.heap.size, i, none⟩ (.int .u8 (zb.toNat : Int))) w.heap.size ca cn cc (t2 + 1 + 1 + 1) v3.heap.size (tx.set i zb)) := HP7.out.set (by rw [HN.out]; exact hin) zb; have hcb7 := HP8.out.conv n cap (by rw [List.length_set, HN.out]; exact Nat.le_refl _); clear hz hS7 hc7))
  all_goals go_ret
  all_goals first
    | exact ⟨_, rfl, by rw [List.length_take, List.length_set]; omega, HP8.out.src.bel⟩
    | exact ⟨_, rfl, by rw [List.length_take]; omega, HP6.out.src.bel⟩
    | exact ⟨_, rfl, by rw [List.length_take]; omega, HP5.out.src.bel⟩

end Go.Proofs.YtlacmcedpphphaaDoor
