/- Two clusters are compared. -/
import Derived.Test.YtmnahhojfcigmaaUg
import Derived.Test.YtmnahhojfcigmaaZa
namespace Go.Proofs.Ytmnahhojfcigmaa
open Go.RowKit Go.Maps Go.WideMaps

theorem eqNs_nil (w : World) : Calls Try.prog 44 #[.slice none 0 0, .slice none 0 0] w fun e w' => e = .returned (.bool true) ∧ w' = w := by
  go_enter Try.func44, Try.ntmps44
  go_wp2
  refine wp_loop_rounds 1 ?_
  rw [rounds_succ]
  go_wp2
  go_ret
  exact ⟨rfl, rfl⟩

theorem eqVos_nil (w : World) : Calls Try.prog 46 #[.slice none 0 0, .slice none 0 0] w fun e w' => e = .returned (.bool true) ∧ w' = w := by
  go_enter Try.func46, Try.ntmps46
  go_wp2
  refine wp_loop_rounds 1 ?_
  rw [rounds_succ]
  go_wp2
  go_ret
  exact ⟨rfl, rfl⟩

theorem eqNs_nilB (w : World) : Calls Try.prog 44 #[.slice none 0 0, .slice none 0 0] w fun e w' => e = .returned (.bool true) ∧ Below w.heap.size w w' := (eqNs_nil w).mono fun _ _ ⟨e, h⟩ => ⟨e, by subst h; exact Below.refl _ _⟩
theorem eqVos_nilB (w : World) : Calls Try.prog 46 #[.slice none 0 0, .slice none 0 0] w fun e w' => e = .returned (.bool true) ∧ Below w.heap.size w w' := (eqVos_nil w).mono fun _ _ ⟨e, h⟩ => ⟨e, by subst h; exact Below.refl _ _⟩
/-- New voters that a slice leads to. -/
def KAt (w : World) (a : Option Addr) (gs : List Int) : Prop :=
  gs.length = 0 ∨ ∃ b off, a = some ⟨b, off, none⟩ ∧ b < w.heap.size ∧ ∀ j, j < gs.length → w.cell? ⟨b, off + j * 3, none⟩ = some (.int .i64 (gs.getD j 0)) ∧ w.cell? ⟨b, off + j * 3 + 1, none⟩ = some (.int .i64 0) ∧ w.cell? ⟨b, off + j * 3 + 2, none⟩ = some (.slice none 0 0)
/-- Empty lists that a slice leads to. -/
def LAt (w : World) (a : Option Addr) (n : Nat) : Prop :=
  n = 0 ∨ ∃ b off, a = some ⟨b, off, none⟩ ∧ b < w.heap.size ∧ ∀ j, j < n → w.cell? ⟨b, off + j, none⟩ = some (.slice none 0 0)
theorem KAt.below {w w' : World} {a : Option Addr} {gs : List Int} (h : KAt w a gs) (hb : Below w.heap.size w w') : KAt w' a gs := by
  rcases h with h | ⟨b, off, rfl, hl, hc⟩
  · exact .inl h
  · exact .inr ⟨b, off, rfl, Nat.lt_of_lt_of_le hl hb.size, fun j hj => ⟨(hb.cell (p := ⟨b, off + j * 3, none⟩) hl).trans (hc j hj).1, (hb.cell (p := ⟨b, off + j * 3 + 1, none⟩) hl).trans (hc j hj).2.1, (hb.cell (p := ⟨b, off + j * 3 + 2, none⟩) hl).trans (hc j hj).2.2⟩⟩
theorem LAt.below {w w' : World} {a : Option Addr} {n : Nat} (h : LAt w a n) (hb : Below w.heap.size w w') : LAt w' a n := by
  rcases h with h | ⟨b, off, rfl, hl, hc⟩
  · exact .inl h
  · exact .inr ⟨b, off, rfl, Nat.lt_of_lt_of_le hl hb.size, fun j hj => (hb.cell (p := ⟨b, off + j, none⟩) hl).trans (hc j hj)⟩
theorem ucells_length (gs : List Int) : (ucells gs).length = gs.length * 3 := by
  induction gs with
  | nil => rfl
  | cons g r ih => unfold ucells at *; rw [List.flatMap_cons, List.length_append, ih]; simp; omega
theorem ucells_at (gs : List Int) : ∀ j, j < gs.length → (ucells gs)[j * 3]? = some (.int .i64 (gs.getD j 0)) ∧ (ucells gs)[j * 3 + 1]? = some (.int .i64 0) ∧ (ucells gs)[j * 3 + 2]? = some (.slice none 0 0) := by
  induction gs with
  | nil => intro j hj; simp at hj
  | cons g r ih =>
    intro j hj
    cases j with
    | zero => exact ⟨rfl, rfl, rfl⟩
    | succ j =>
      have := ih j (by simpa using hj)
      have e : ucells (g :: r) = .int .i64 g :: .int .i64 0 :: .slice none 0 0 :: ucells r := rfl
      rw [e, show (j + 1) * 3 = j * 3 + 3 by omega]
      exact this
theorem kat_row {w : World} {base c : Nat} {a : Option Addr} {gs : List Int} (h : w.ownsRow base 53 3 (.slice a gs.length c) gs.length (ucells gs)) : KAt w a gs := by
  rcases id h.2 with ⟨_, h0⟩ | ⟨g, cap, cur, e, _⟩
  · exact .inl h0
  · simp at e
    obtain ⟨rfl, rfl⟩ := e
    have hl := ucells_length gs
    refine .inr ⟨g, 0, rfl, (h.lt g rfl).2, fun j hj => ?_⟩
    obtain ⟨a0, a1, a2⟩ := ucells_at gs j hj
    simp only [Nat.zero_add]
    exact ⟨(h.cellAt (j * 3) (by omega)).trans a0, (h.cellAt (j * 3 + 1) (by omega)).trans a1, (h.cellAt (j * 3 + 2) (by omega)).trans a2⟩
theorem lat_row {w : World} {base c n : Nat} {a : Option Addr} (h : w.ownsRow base 22 1 (.slice a n c) n (nils n)) : LAt w a n := by
  rcases id h.2 with ⟨_, h0⟩ | ⟨g, cap, cur, e, _⟩
  · exact .inl h0
  · simp at e
    obtain ⟨rfl, rfl⟩ := e
    refine .inr ⟨g, 0, rfl, (h.lt g rfl).2, fun j hj => ?_⟩
    rw [Nat.zero_add, h.cellAt j (by omega)]
    simp [nils, hj]

set_option maxHeartbeats 1000000 in
theorem eqUs_any (a b : Option Addr) (gs : List Int) (c1 c2 : Nat) (w : World) (hl : gs.length ≤ 1048576) (ha : KAt w a gs) (hb : KAt w b gs) :
    Calls Try.prog 45 #[.slice a gs.length c1, .slice b gs.length c2] w fun e w' => e = .returned (.bool true) ∧ Below w.heap.size w w' := by
  have HA : Hid (KAt w a gs) := ha
  have HB : Hid (KAt w b gs) := hb
  clear ha hb
  obtain ⟨n, hn⟩ : ∃ n, n = gs.length := ⟨_, rfl⟩
  rw [← hn] at hl ⊢
  have HN : Hid (gs.length = n) := hn.symm
  clear hn
  go_enter Try.func45, Try.ntmps45
  go_wp2
  go_loopw [5] (fun i wr => ∃ k : Nat, k ≤ n ∧ i = .int .i64 k ∧ Below w.heap.size w wr) (fun i _ => n - (intOf i).toNat)
  case atStart => exact ⟨0, Nat.zero_le _, rfl, Below.refl _ _⟩
  case round =>
    obtain ⟨k, hk, rfl, hbel⟩ := hrel
    by_cases hlt : k < n
    · rcases HA.out with h0 | ⟨b0, o0, e0, l0, d0⟩
      · have := HN.out; omega
      subst e0
      rcases HB.out with h0 | ⟨b1, o1, e1, l1, d1⟩
      · have := HN.out; omega
      subst e1
      obtain ⟨g, hg⟩ : ∃ g, g = gs.getD k 0 := ⟨_, rfl⟩
      have y0 := d0 k (by rw [HN.out]; exact hlt)
      have y1 := d1 k (by rw [HN.out]; exact hlt)
      rw [← hg] at y0 y1
      have x0 := (hbel.cell (p := ⟨b0, o0 + k * 3, none⟩) l0).trans y0.1
      have x1 := (hbel.cell (p := ⟨b0, o0 + k * 3 + 1, none⟩) l0).trans y0.2.1
      have x2 := (hbel.cell (p := ⟨b0, o0 + k * 3 + 2, none⟩) l0).trans y0.2.2
      have x3 := (hbel.cell (p := ⟨b1, o1 + k * 3, none⟩) l1).trans y1.1
      have x4 := (hbel.cell (p := ⟨b1, o1 + k * 3 + 1, none⟩) l1).trans y1.2.1
      have x5 := (hbel.cell (p := ⟨b1, o1 + k * 3 + 2, none⟩) l1).trans y1.2.2
      clear hg d0 d1 y0 y1
      have hki : (k : Int) < (n : Int) := by omega
      have hw0 : b0 < wr.heap.size := Nat.lt_of_lt_of_le l0 hbel.size
      have hw1 : b1 < wr.heap.size := Nat.lt_of_lt_of_le l1 hbel.size
      have hcall : ∀ j, Calls Try.prog 63 #[.agg #[.int .i64 g, .int .i64 0, .slice none 0 0], .agg #[.int .i64 g, .int .i64 0, .slice none 0 0]] (wr.drewN j) fun e w' => e = .returned (.bool true) ∧ Below wr.heap.size wr w' := fun j => (eqVt_any g 0 none none 0 0 0 [] _ (by omega) ⟨rfl, .inl rfl⟩ ⟨rfl, .inl rfl⟩).mono fun e w' h => ⟨h.1, (Joins.below_draws _ wr j).trans h.2⟩
      go_wp2
      go_region_held3 (fun w' => w'.cell? ⟨b0, o0 + k * 3, none⟩ = some (.int .i64 g) ∧ w'.cell? ⟨b0, o0 + k * 3 + 1, none⟩ = some (.int .i64 0) ∧ w'.cell? ⟨b0, o0 + k * 3 + 2, none⟩ = some (.slice none 0 0) ∧ w'.cell? ⟨b1, o1 + k * 3, none⟩ = some (.int .i64 g) ∧ w'.cell? ⟨b1, o1 + k * 3 + 1, none⟩ = some (.int .i64 0) ∧ w'.cell? ⟨b1, o1 + k * 3 + 2, none⟩ = some (.slice none 0 0)) (go_keep)
        (first | (go_at_call 63; refine (hcall 1).mono ?_; rintro e w3 ⟨rfl, hb3⟩; have z0 := (hb3.cell (p := ⟨b0, o0 + k * 3, none⟩) hw0).trans x0; have z1 := (hb3.cell (p := ⟨b0, o0 + k * 3 + 1, none⟩) hw0).trans x1; have z2 := (hb3.cell (p := ⟨b0, o0 + k * 3 + 2, none⟩) hw0).trans x2; have z3 := (hb3.cell (p := ⟨b1, o1 + k * 3, none⟩) hw1).trans x3; have z4 := (hb3.cell (p := ⟨b1, o1 + k * 3 + 1, none⟩) hw1).trans x4; have z5 := (hb3.cell (p := ⟨b1, o1 + k * 3 + 2, none⟩) hw1).trans x5))
      go_wp2
      go_roundw
      case rel => exact ⟨k + 1, by omega, by go_num, hbel.trans (hb3.mono hbel.size)⟩
      case measure => simp [intOf]; omega
    · go_wp2
      go_ret
      exact ⟨rfl, hbel⟩

set_option maxHeartbeats 1000000 in
theorem eqLs_any (a b : Option Addr) (n c1 c2 : Nat) (w : World) (hl : n ≤ 1048576) (ha : LAt w a n) (hb : LAt w b n) :
    Calls Try.prog 47 #[.slice a n c1, .slice b n c2] w fun e w' => e = .returned (.bool true) ∧ Below w.heap.size w w' := by
  have HA : Hid (LAt w a n) := ha
  have HB : Hid (LAt w b n) := hb
  clear ha hb
  go_enter Try.func47, Try.ntmps47
  go_wp2
  go_loopw [5] (fun i wr => ∃ k : Nat, k ≤ n ∧ i = .int .i64 k ∧ Below w.heap.size w wr) (fun i _ => n - (intOf i).toNat)
  case atStart => exact ⟨0, Nat.zero_le _, rfl, Below.refl _ _⟩
  case round =>
    obtain ⟨k, hk, rfl, hbel⟩ := hrel
    by_cases hlt : k < n
    · rcases HA.out with h0 | ⟨b0, o0, e0, l0, d0⟩
      · omega
      subst e0
      rcases HB.out with h0 | ⟨b1, o1, e1, l1, d1⟩
      · omega
      subst e1
      have x0 := (hbel.cell (p := ⟨b0, o0 + k, none⟩) l0).trans (d0 k hlt)
      have x3 := (hbel.cell (p := ⟨b1, o1 + k, none⟩) l1).trans (d1 k hlt)
      clear d0 d1
      have hki : (k : Int) < (n : Int) := by omega
      have hw0 : b0 < wr.heap.size := Nat.lt_of_lt_of_le l0 hbel.size
      have hw1 : b1 < wr.heap.size := Nat.lt_of_lt_of_le l1 hbel.size
      have hcall : ∀ j, Calls Try.prog 11 #[.slice none 0 0, .slice none 0 0] (wr.drewN j) fun e w' => e = .returned (.bool true) ∧ Below wr.heap.size wr w' := fun j => (eqI_any none none 0 0 0 [] _ (by omega) ⟨rfl, .inl rfl⟩ ⟨rfl, .inl rfl⟩).mono fun e w' h => ⟨h.1, (Joins.below_draws _ wr j).trans h.2⟩
      go_wp2
      go_region_held3 (fun w' => w'.cell? ⟨b0, o0 + k, none⟩ = some (.slice none 0 0) ∧ w'.cell? ⟨b1, o1 + k, none⟩ = some (.slice none 0 0)) (go_keep)
        (first | (go_at_call 11; refine (hcall 1).mono ?_; rintro e w3 ⟨rfl, hb3⟩; have z0 := (hb3.cell (p := ⟨b0, o0 + k, none⟩) hw0).trans x0; have z3 := (hb3.cell (p := ⟨b1, o1 + k, none⟩) hw1).trans x3))
      go_wp2
      go_roundw
      case rel => exact ⟨k + 1, by omega, by go_num, hbel.trans (hb3.mono hbel.size)⟩
      case measure => simp [intOf]; omega
    · go_wp2
      go_ret
      exact ⟨rfl, hbel⟩

/-- What a cluster leads to can be read. -/
structure ClA (w : World) (l t gs : List Int) (h : Nat) (ka ba va ha : Option Addr) : Prop where
  keys : IAt w ka l.length l
  bad : IAt w ba t.length t
  vts : KAt w va gs
  hrd : LAt w ha h
theorem ClA.below {w w' : World} {l t gs : List Int} {h : Nat} {ka ba va ha : Option Addr} (H : ClA w l t gs h ka ba va ha) (hb : Below w.heap.size w w') : ClA w' l t gs h ka ba va ha :=
  ⟨H.keys.below hb (Nat.le_refl _), H.bad.below hb (Nat.le_refl _), H.vts.below hb, H.hrd.below hb⟩
theorem ClR.reads {ap : Bool} {base : Nat} {W : World} {l t gs : List Int} {h : Nat} {ka : Option Addr} {kc : Nat} {ba : Option Addr} {bc : Nat} {va : Option Addr} {vc : Nat} {ha : Option Addr} {hc : Nat} (H : ClR ap base W l t gs h ka kc ba bc va vc ha hc) : ClA W l t gs h ka ba va ha :=
  ⟨IAt.owned H.keys rfl, IAt.owned H.bad rfl, kat_row H.vts, lat_row H.hrd⟩

set_option maxHeartbeats 2000000 in
theorem eqC_any (l t gs : List Int) (x : Int) (h : Nat) (ka1 : Option Addr) (kc1 : Nat) (ba1 : Option Addr) (bc1 : Nat) (va1 : Option Addr) (vc1 : Nat) (ha1 : Option Addr) (hc1 : Nat) (ka2 : Option Addr) (kc2 : Nat) (ba2 : Option Addr) (bc2 : Nat) (va2 : Option Addr) (vc2 : Nat) (ha2 : Option Addr) (hc2 : Nat) (w : World) (hl : l.length ≤ 1048576) (ht : t.length ≤ 1048576) (hg : gs.length ≤ 1048576) (hh : h ≤ 1048576) (ha : ClA w l t gs h ka1 ba1 va1 ha1) (hb : ClA w l t gs h ka2 ba2 va2 ha2) :
    Calls Try.prog 27 #[.agg #[.slice ka1 l.length kc1, .int .i64 x, .slice ba1 t.length bc1, .slice none 0 0, .slice va1 gs.length vc1, .slice none 0 0, .slice ha1 h hc1], .agg #[.slice ka2 l.length kc2, .int .i64 x, .slice ba2 t.length bc2, .slice none 0 0, .slice va2 gs.length vc2, .slice none 0 0, .slice ha2 h hc2]] w fun e w' => e = .returned (.bool true) ∧ Below w.heap.size w w' := by
  obtain ⟨W0, hW0⟩ : ∃ W, W = ((w.alloc (.cells #[.slice ka1 l.length kc1, .int .i64 x, .slice ba1 t.length bc1, .slice none 0 0, .slice va1 gs.length vc1, .slice none 0 0, .slice ha1 h hc1] 32)).alloc (.cells #[.slice ka2 l.length kc2, .int .i64 x, .slice ba2 t.length bc2, .slice none 0 0, .slice va2 gs.length vc2, .slice none 0 0, .slice ha2 h hc2] 32)) := ⟨_, rfl⟩
  have HBX : Hid (Below w.heap.size w W0) := by rw [hW0]; exact below_box2 _ _
  have T0 : Hid (W0.heap[w.heap.size]? = some (.cells #[.slice ka1 l.length kc1, .int .i64 x, .slice ba1 t.length bc1, .slice none 0 0, .slice va1 gs.length vc1, .slice none 0 0, .slice ha1 h hc1] 32 (0, 0))) := by rw [hW0]; exact block_at2
  have T1 : Hid (W0.heap[w.heap.size + 1]? = some (.cells #[.slice ka2 l.length kc2, .int .i64 x, .slice ba2 t.length bc2, .slice none 0 0, .slice va2 gs.length vc2, .slice none 0 0, .slice ha2 h hc2] 32 (0, 0))) := by rw [hW0]; exact heap_alloc_at _ _ _ (by simp)
  have HA : Hid (ClA W0 l t gs h ka1 ba1 va1 ha1) := ha.below (by rw [hW0]; exact below_box2 _ _)
  have HB : Hid (ClA W0 l t gs h ka2 ba2 va2 ha2) := hb.below (by rw [hW0]; exact below_box2 _ _)
  have h0 := eqQu_any ka1 ka2 l.length kc1 kc2 l x W0 hl HA.out.keys HB.out.keys
  have HW0 : Hid (W0 = ((w.alloc (.cells #[.slice ka1 l.length kc1, .int .i64 x, .slice ba1 t.length bc1, .slice none 0 0, .slice va1 gs.length vc1, .slice none 0 0, .slice ha1 h hc1] 32)).alloc (.cells #[.slice ka2 l.length kc2, .int .i64 x, .slice ba2 t.length bc2, .slice none 0 0, .slice va2 gs.length vc2, .slice none 0 0, .slice ha2 h hc2] 32))) := hW0
  rw [hW0] at h0
  clear ha hb hW0
  go_enter Try.func27, Try.ntmps27
  go_wp2_with (first
    | (go_at_call 10; have hq := h0; clear h0; (with_reducible refine hq.mono ?_); clear hq; rintro e u1 ⟨rfl, hb⟩; have HB1 : Hid (Below W0.heap.size W0 u1) := (by rw [← HW0.out] at hb; exact hb); obtain ⟨p0, p1, p2, p3, p4, p5, p6⟩ := cells7V (keepb T0.out HB1.out).out; obtain ⟨q0, q1, q2, q3, q4, q5, q6⟩ := cells7V (keepb T1.out HB1.out).out; have h1 := eqI_any ba1 ba2 t.length bc1 bc2 t u1 ht (HA.out.below HB1.out).bad (HB.out.below HB1.out).bad; clear hb)
    | (go_at_call 11; have hq := h1; clear h1; (with_reducible refine hq.mono ?_); clear hq; rintro e u2 ⟨rfl, hb⟩; have HB2 : Hid (Below W0.heap.size W0 u2) := HB1.out.trans (hb.mono HB1.out.size); clear p0 p1 p2 p3 p4 p5 p6 q0 q1 q2 q3 q4 q5 q6; obtain ⟨p0, p1, p2, p3, p4, p5, p6⟩ := cells7V (keepb T0.out HB2.out).out; obtain ⟨q0, q1, q2, q3, q4, q5, q6⟩ := cells7V (keepb T1.out HB2.out).out; have h2 := eqNs_nilB u2; clear hb)
    | (go_at_call 44; have hq := h2; clear h2; (with_reducible refine hq.mono ?_); clear hq; rintro e u3 ⟨rfl, hb⟩; have HB3 : Hid (Below W0.heap.size W0 u3) := HB2.out.trans (hb.mono HB2.out.size); clear p0 p1 p2 p3 p4 p5 p6 q0 q1 q2 q3 q4 q5 q6; obtain ⟨p0, p1, p2, p3, p4, p5, p6⟩ := cells7V (keepb T0.out HB3.out).out; obtain ⟨q0, q1, q2, q3, q4, q5, q6⟩ := cells7V (keepb T1.out HB3.out).out; have h3 := eqUs_any va1 va2 gs vc1 vc2 u3 hg (HA.out.below HB3.out).vts (HB.out.below HB3.out).vts; clear hb)
    | (go_at_call 45; have hq := h3; clear h3; (with_reducible refine hq.mono ?_); clear hq; rintro e u4 ⟨rfl, hb⟩; have HB4 : Hid (Below W0.heap.size W0 u4) := HB3.out.trans (hb.mono HB3.out.size); clear p0 p1 p2 p3 p4 p5 p6 q0 q1 q2 q3 q4 q5 q6; obtain ⟨p0, p1, p2, p3, p4, p5, p6⟩ := cells7V (keepb T0.out HB4.out).out; obtain ⟨q0, q1, q2, q3, q4, q5, q6⟩ := cells7V (keepb T1.out HB4.out).out; have h4 := eqVos_nilB u4; clear hb)
    | (go_at_call 46; have hq := h4; clear h4; (with_reducible refine hq.mono ?_); clear hq; rintro e u5 ⟨rfl, hb⟩; have HB5 : Hid (Below W0.heap.size W0 u5) := HB4.out.trans (hb.mono HB4.out.size); clear p0 p1 p2 p3 p4 p5 p6 q0 q1 q2 q3 q4 q5 q6; obtain ⟨p0, p1, p2, p3, p4, p5, p6⟩ := cells7V (keepb T0.out HB5.out).out; obtain ⟨q0, q1, q2, q3, q4, q5, q6⟩ := cells7V (keepb T1.out HB5.out).out; have h5 := eqLs_any ha1 ha2 h hc1 hc2 u5 hh (HA.out.below HB5.out).hrd (HB.out.below HB5.out).hrd; clear hb)
    | (go_at_call 47; have hq := h5; clear h5; (with_reducible refine hq.mono ?_); clear hq; rintro e u6 ⟨rfl, hb⟩; have HB6 : Hid (Below W0.heap.size W0 u6) := HB5.out.trans (hb.mono HB5.out.size); clear hb))
  go_ret
  exact ⟨rfl, HBX.out.trans (HB6.out.mono HBX.out.size)⟩

set_option maxHeartbeats 1000000 in
theorem eqClR_any (p : Int) (l t gs : List Int) (x : Int) (h : Nat) (ka1 : Option Addr) (kc1 : Nat) (ba1 : Option Addr) (bc1 : Nat) (va1 : Option Addr) (vc1 : Nat) (ha1 : Option Addr) (hc1 : Nat) (ka2 : Option Addr) (kc2 : Nat) (ba2 : Option Addr) (bc2 : Nat) (va2 : Option Addr) (vc2 : Nat) (ha2 : Option Addr) (hc2 : Nat) (w : World) (hl : l.length ≤ 1048576) (ht : t.length ≤ 1048576) (hg : gs.length ≤ 1048576) (hh : h ≤ 1048576) (ha : ClA w l t gs h ka1 ba1 va1 ha1) (hb : ClA w l t gs h ka2 ba2 va2 ha2) :
    Calls Try.prog 9 #[.agg #[.int .i64 p, .slice ka1 l.length kc1, .int .i64 x, .slice ba1 t.length bc1, .slice none 0 0, .slice va1 gs.length vc1, .slice none 0 0, .slice ha1 h hc1], .agg #[.int .i64 p, .slice ka2 l.length kc2, .int .i64 x, .slice ba2 t.length bc2, .slice none 0 0, .slice va2 gs.length vc2, .slice none 0 0, .slice ha2 h hc2]] w fun e w' => e = .returned (.bool true) ∧ Below w.heap.size w w' := by
  have hbx : Below w.heap.size w ((w.alloc (.cells #[.int .i64 p, .slice ka1 l.length kc1, .int .i64 x, .slice ba1 t.length bc1, .slice none 0 0, .slice va1 gs.length vc1, .slice none 0 0, .slice ha1 h hc1] 34)).alloc (.cells #[.int .i64 p, .slice ka2 l.length kc2, .int .i64 x, .slice ba2 t.length bc2, .slice none 0 0, .slice va2 gs.length vc2, .slice none 0 0, .slice ha2 h hc2] 34)) := below_box2 _ _
  have hS := eqC_any l t gs x h ka1 kc1 ba1 bc1 va1 vc1 ha1 hc1 ka2 kc2 ba2 bc2 va2 vc2 ha2 hc2 _ hl ht hg hh (ha.below hbx) (hb.below hbx)
  have HBX : Hid (Below w.heap.size w ((w.alloc (.cells #[.int .i64 p, .slice ka1 l.length kc1, .int .i64 x, .slice ba1 t.length bc1, .slice none 0 0, .slice va1 gs.length vc1, .slice none 0 0, .slice ha1 h hc1] 34)).alloc (.cells #[.int .i64 p, .slice ka2 l.length kc2, .int .i64 x, .slice ba2 t.length bc2, .slice none 0 0, .slice va2 gs.length vc2, .slice none 0 0, .slice ha2 h hc2] 34))) := hbx
  clear hbx ha hb
  go_enter Try.func9, Try.ntmps9
  go_wp2_with (first
    | (go_at_call 27; (with_reducible refine hS.mono ?_); clear hS; rintro e w2 ⟨rfl, hb2⟩; have HBW : Hid (Below w.heap.size w w2) := HBX.out.trans (hb2.mono HBX.out.size); clear hb2))
  go_ret
  exact ⟨rfl, HBW.out⟩

end Go.Proofs.Ytmnahhojfcigmaa
