/- The law on TxFault answers true, whatever transaction comes in, and writes nothing that was there: where the program's TxFault keeps its contract. -/
import Derived.Test.YtglfkjegkoealaaTxS
import Derived.Test.YtglfkjegkoealaaOpT
namespace Go.Proofs.Ytglfkjegkoealaa
open Go.RowKit Go.Maps Go.WideMaps

/-- A transaction in a block of its own, all old memory below as it was. -/
structure TBx (w v : World) (k f : Int) (ia : Option Addr) (n c : Nat) (oa : Option Addr) (m d : Nat) (t : TypeId) : Prop where
  box : v.heap[w.heap.size]? = some (.cells #[.int .i64 k, .int .i64 f, .slice ia n c, .slice oa m d] t (0, 0))
  bel : Below w.heap.size w v
section
variable {w v v' : World} {k f : Int} {ia oa : Option Addr} {n c m d : Nat} {t : TypeId} {rs : List (Int × Int)} {os : List Ou}
theorem TBx.start : TBx w (w.alloc (.cells #[.int .i64 k, .int .i64 f, .slice ia n c, .slice oa m d] t)) k f ia n c oa m d t := ⟨heap_alloc_new _ _, below_box _⟩
theorem TBx.step (h : TBx w v k f ia n c oa m d t) (hb : Below v.heap.size v v') : TBx w v' k f ia n c oa m d t := ⟨(keepb h.box hb).out, h.bel.trans (hb.mono h.bel.size)⟩
theorem TBx.at (h : TBx w v k f ia n c oa m d t) (hI : TxAt w ia n oa m rs os) : TxAt v ia n oa m rs os := hI.below h.bel (Nat.le_refl _)
theorem TBx.lt (h : TBx w v k f ia n c oa m d t) : w.heap.size < v.heap.size := lt_of_block h.box
end
theorem keep4 {v v' : World} {P : Nat} {c0 c1 c2 c3 : Value} (hl : P < v.heap.size) (hb : Below v.heap.size v v') (h : v.cell? ⟨P, 0, none⟩ = some c0 ∧ v.cell? ⟨P, 1, none⟩ = some c1 ∧ v.cell? ⟨P, 2, none⟩ = some c2 ∧ v.cell? ⟨P, 3, none⟩ = some c3) : v'.cell? ⟨P, 0, none⟩ = some c0 ∧ v'.cell? ⟨P, 1, none⟩ = some c1 ∧ v'.cell? ⟨P, 2, none⟩ = some c2 ∧ v'.cell? ⟨P, 3, none⟩ = some c3 :=
  ⟨(hb.cell (p := ⟨P, 0, none⟩) hl).trans h.1, (hb.cell (p := ⟨P, 1, none⟩) hl).trans h.2.1, (hb.cell (p := ⟨P, 2, none⟩) hl).trans h.2.2.1, (hb.cell (p := ⟨P, 3, none⟩) hl).trans h.2.2.2⟩

/-- What a copy is worth: a transaction that can be read, the refs' room at hand. -/
theorem OutTx.at {w w' : World} {n m g0 c0 g1 : Nat} {rs : List (Int × Int)} {os : List Ou} (h0 : w'.ownsRow w.heap.size 69 2 (.slice (some ⟨g0, 0, none⟩) n c0) n (gcells rs)) (h1 : OAtN w' w.heap.size g1 m os) (hn : rs.length = n) : Hid (TxAt w' (some ⟨g0, 0, none⟩) n (some ⟨g1, 0, none⟩) m rs os) ∧ n ≤ c0 ∧ c0 ≤ maxLen := by
  rcases id h0.2 with ⟨e, _⟩ | ⟨g', c', cur, e, _, _, k1, k2, _⟩
  · cases e
  · simp at e
    obtain ⟨rfl, rfl⟩ := e
    exact ⟨⟨GAt.owned h0 hn, h1.at⟩, k1, k2⟩

/-- What the program's TxFault owes. -/
def ITxFault : Prop := ∀ (n c m d : Nat) (ia oa : Option Addr) (k f : Int) (rs : List (Int × Int)) (os : List Ou) (w : World), n ≤ 1048576 → m ≤ 1048576 → n ≤ c → c ≤ maxLen → (∀ j, j < m → (os.getD j O0).l.length ≤ 1048576) → (Lit.int .i64 k).wf = true → (Lit.int .i64 f).wf = true → FineR rs → FineO os → TxAt w ia n oa m rs os →
  Calls Try.prog 14 #[.agg #[.int .i64 k, .int .i64 f, .slice ia n c, .slice oa m d]] w fun e w' => e = .returned (.int .i64 (txR k f rs os)) ∧ Below w.heap.size w w'

set_option maxRecDepth 20000 in
set_option maxHeartbeats 2000000 in
theorem lawTxFault (hi : ITxFault) (n c m d : Nat) (ia oa : Option Addr) (k f : Int) (rs : List (Int × Int)) (os : List Ou) (w : World) (hn : n ≤ maxLen) (hm : m ≤ maxLen) (hwk : (Lit.int .i64 k).wf = true) (hwf : (Lit.int .i64 f).wf = true) (hfr : FineR rs) (hfo : FineO os) (h : TxAt w ia n oa m rs os) :
    Calls Try.prog 3 #[.agg #[.int .i64 k, .int .i64 f, .slice ia n c, .slice oa m d]] w fun e w' => e = .returned (.bool true) ∧ Below w.heap.size w w' := by
  have B0 : TBx w (w.alloc (.cells #[.int .i64 k, .int .i64 f, .slice ia n c, .slice oa m d] 25)) k f ia n c oa m d 25 := TBx.start
  have hsz := szTx_any k f ia oa n m c d os 1048576 (w.alloc (.cells #[.int .i64 k, .int .i64 f, .slice ia n c, .slice oa m d] 25)) (by omega) (by omega) hn hm (B0.at h).o
  have HI : Hid ITxFault := hi
  have HN : Hid (rs.length = n) := h.r.1
  have HT : Hid (TxAt w ia n oa m rs os) := h
  have HW : Hid ((Lit.int .i64 k).wf = true ∧ (Lit.int .i64 f).wf = true ∧ FineR rs ∧ FineO os) := ⟨hwk, hwf, hfr, hfo⟩
  have HB0 : Hid (TBx w (w.alloc (.cells #[.int .i64 k, .int .i64 f, .slice ia n c, .slice oa m d] 25)) k f ia n c oa m d 25) := B0
  clear h B0 hi hwk hwf hfr hfo
  obtain ⟨cd, hcd⟩ : ∃ c, c = txR k f rs os := ⟨_, rfl⟩
  have HCD : Hid (txR k f rs os = cd) := hcd.symm
  clear hcd
  go_enter Try.func3, Try.ntmps3
  go_wp2_with (go_at_call 11; refine hsz.mono ?_; rintro e w1 ⟨r, rfl, hr, hb1⟩; have HB1 : Hid (TBx w w1 k f ia n c oa m d 25) := HB0.out.step hb1; obtain ⟨p0, p1, p2, p3, _⟩ := cells4 HB1.out.box; clear hb1)
  · go_ret
    exact ⟨rfl, HB1.out.bel⟩
  have hr0 : 0 ≤ r := by assumption
  rcases hr with e | ⟨_, _, hn2, hm2, hk2⟩
  · omega
  have hn3 : n ≤ 1048576 := by omega
  have hm3 : m ≤ 1048576 := by omega
  have HK : Hid (∀ j, j < m → (os.getD j O0).l.length ≤ 1048576) := fun j hj => by have := hk2 j hj; omega
  clear hn2 hm2 hk2 hsz HB0
  refine (toTx_any k f ia oa n m c d rs os w1 hn3 hm3 HK.out (HB1.out.at HT.out)).mono ?_
  rintro e w2 ⟨g0, c0, g1, c1, rfl, ho2, hO2, hb2⟩
  obtain ⟨HT2, hc2, hc3⟩ := OutTx.at ho2 hO2 HN.out
  have HB2 : Hid (TBx w w2 k f ia n c oa m d 25) := HB1.out.step hb2
  have hsp := sTxFault_any n c0 m c1 _ _ k f rs os w2 hn3 hm3 hc2 hc3 HK.out HT2.out
  rw [HCD.out] at hsp
  clear ho2 hO2 hb2 p0 p1 p2 p3 hc2 hc3
  go_wp2_with (go_at_call 12; refine hsp.mono ?_; rintro e w3 ⟨rfl, hb3⟩; have HB3 : Hid (TBx w w3 k f ia n c oa m d 25) := HB2.out.step hb3; obtain ⟨p0, p1, p2, p3, _⟩ := cells4 HB3.out.box; clear hb3)
  refine (toTx_any k f ia oa n m c d rs os w3 hn3 hm3 HK.out (HB3.out.at HT.out)).mono ?_
  rintro e w4 ⟨g2, c2, g3, c3, rfl, ho4, hO4, hb4⟩
  obtain ⟨HT4, hc4, hc5⟩ := OutTx.at ho4 hO4 HN.out
  have hbx4 : Below w4.heap.size w4 (w4.alloc (.cells #[.int .i64 k, .int .i64 f, .slice (some ⟨g2, 0, none⟩) n c2, .slice (some ⟨g3, 0, none⟩) m c3] 31)) := below_box _
  have HB4 : Hid (TBx w (w4.alloc (.cells #[.int .i64 k, .int .i64 f, .slice (some ⟨g2, 0, none⟩) n c2, .slice (some ⟨g3, 0, none⟩) m c3] 31)) k f ia n c oa m d 25) := (HB3.out.step hb4).step hbx4
  have HX4 := show Hid ((w4.alloc (.cells #[.int .i64 k, .int .i64 f, .slice (some ⟨g2, 0, none⟩) n c2, .slice (some ⟨g3, 0, none⟩) m c3] 31)).heap[w4.heap.size]? = some (.cells #[.int .i64 k, .int .i64 f, .slice (some ⟨g2, 0, none⟩) n c2, .slice (some ⟨g3, 0, none⟩) m c3] 31 (0, 0))) from heap_alloc_new _ _
  have HT5 : Hid (TxAt (w4.alloc (.cells #[.int .i64 k, .int .i64 f, .slice (some ⟨g2, 0, none⟩) n c2, .slice (some ⟨g3, 0, none⟩) m c3] 31)) (some ⟨g2, 0, none⟩) n (some ⟨g3, 0, none⟩) m rs os) := HT4.out.below hbx4 (Nat.le_refl _)
  have him := HI.out n c2 m c3 _ _ k f rs os _ hn3 hm3 hc4 hc5 HK.out HW.out.1 HW.out.2.1 HW.out.2.2.1 HW.out.2.2.2 HT5.out
  rw [HCD.out] at him
  clear ho4 hO4 hb4 hbx4 p0 p1 p2 p3
  go_wp2_with (go_at_call 14; refine him.mono ?_; rintro e w5 ⟨rfl, hb5⟩; have HB5 : Hid (TBx w w5 k f ia n c oa m d 25) := HB4.out.step hb5; have HX5 := keepb HX4.out hb5; obtain ⟨p0, p1, p2, p3, _⟩ := cells4 HB5.out.box; obtain ⟨x0, x1, x2, x3, _⟩ := cells4 HX5.out; have HT6 : Hid (TxAt w5 (some ⟨g2, 0, none⟩) n (some ⟨g3, 0, none⟩) m rs os) := HT5.out.below hb5 (Nat.le_refl _); have hl4 := lt_of_block HX5.out; have hl0 := HB5.out.lt; clear hb5)
  have hto : Calls Try.prog 13 #[.agg #[.int .i64 k, .int .i64 f, .slice ia n c, .slice oa m d]] w5.drew fun e w' => ∃ g0 c0 g1 c1, e = .returned (.agg #[.int .i64 k, .int .i64 f, .slice (some ⟨g0, 0, none⟩) n c0, .slice (some ⟨g1, 0, none⟩) m c1]) ∧ Hid (TxAt w' (some ⟨g0, 0, none⟩) n (some ⟨g1, 0, none⟩) m rs os) ∧ Below w5.heap.size w5 w' :=
    (toTx_any k f ia oa n m c d rs os _ hn3 hm3 HK.out ((HB5.out.at HT.out).below (Below.refl _ _).drew (Nat.le_refl _))).mono fun e w' ⟨a0, a1, a2, a3, h1, h2, h3, h4⟩ => ⟨a0, a1, a2, a3, h1, (OutTx.at h2 h3 HN.out).1, (Below.refl _ _).drew.trans h4⟩
  go_region_held3 (fun w' => (w'.cell? ⟨w4.heap.size, 0, none⟩ = some (.int .i64 k) ∧ w'.cell? ⟨w4.heap.size, 1, none⟩ = some (.int .i64 f) ∧ w'.cell? ⟨w4.heap.size, 2, none⟩ = some (.slice (some ⟨g2, 0, none⟩) n c2) ∧ w'.cell? ⟨w4.heap.size, 3, none⟩ = some (.slice (some ⟨g3, 0, none⟩) m c3)) ∧ w'.cell? ⟨w.heap.size, 0, none⟩ = some (.int .i64 k) ∧ w'.cell? ⟨w.heap.size, 1, none⟩ = some (.int .i64 f) ∧ w'.cell? ⟨w.heap.size, 2, none⟩ = some (.slice ia n c) ∧ w'.cell? ⟨w.heap.size, 3, none⟩ = some (.slice oa m d)) (go_keep)
    (first
      | (go_at_call 13; refine hto.mono ?_; rintro e w6 ⟨g6, c6, g7, c7, rfl, HT7, hb6⟩; obtain ⟨z0, z1, z2, z3⟩ := keep4 hl4 hb6 ⟨x0, x1, x2, x3⟩; obtain ⟨z4, z5, z6, z7⟩ := keep4 hl0 hb6 ⟨p0, p1, p2, p3⟩)
      | (go_at_call 15; refine (eqTx_any k f _ _ _ _ n m c2 c6 c3 c7 rs os _ hn3 hm3 HK.out (HT6.out.below hb6 (Nat.le_refl _)) HT7.out).mono ?_; rintro e w7 ⟨rfl, hb7⟩; have hs6 := hb6.size; obtain ⟨y0, y1, y2, y3⟩ := keep4 (Nat.lt_of_lt_of_le hl4 hs6) hb7 ⟨z0, z1, z2, z3⟩; obtain ⟨y4, y5, y6, y7⟩ := keep4 (Nat.lt_of_lt_of_le hl0 hs6) hb7 ⟨z4, z5, z6, z7⟩))
  go_wp2
  go_ret
  exact ⟨rfl, ((HB5.out.step hb6).step hb7).bel⟩

end Go.Proofs.Ytglfkjegkoealaa
