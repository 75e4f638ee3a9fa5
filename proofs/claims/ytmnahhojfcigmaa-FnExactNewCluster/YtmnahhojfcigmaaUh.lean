/- The specification's NewCluster. -/
import Derived.Test.YtmnahhojfcigmaaUg
import Derived.Test.YtmnahhojfcigmaaRv
namespace Go.Proofs.Ytmnahhojfcigmaa
open Go.RowKit Go.Maps Go.WideMaps

theorem l12Err_any (c : Int) (w : World) : Calls Try.prog 18 #[.int .i64 c] w fun e w' => e = .returned (.agg #[.int .i64 c, .slice none 0 0, .int .i64 0, .slice none 0 0, .slice none 0 0, .slice none 0 0, .slice none 0 0, .slice none 0 0]) ∧ Below w.heap.size w w' := by
  go_enter Try.func18, Try.ntmps18
  go_wp2
  have hX := heap_alloc_new w (.cells #[.int .i64 c, .slice none 0 0, .int .i64 0, .slice none 0 0, .slice none 0 0, .slice none 0 0, .slice none 0 0, .slice none 0 0] 34)
  obtain ⟨s0, s1, s2, s3, s4, s5, s6, s7⟩ := cells8V hX
  exact bodyPost_ret (v := .agg #[.int .i64 c, .slice none 0 0, .int .i64 0, .slice none 0 0, .slice none 0 0, .slice none 0 0, .slice none 0 0, .slice none 0 0]) (by simp [results, Try.results18, go_sem, s0, s1, s2, s3, s4, s5, s6, s7]) rfl ⟨rfl, below_box _⟩

theorem nils_row {W : World} {X h lo : Nat} (hX : W.heap[X]? = some (.cells (nils h).toArray 22 (0, 0))) (hlo : lo ≤ X) (hh : h ≤ 4) : W.ownsRow lo 22 1 (.slice (some ⟨X, 0, none⟩) h h) h (nils h) :=
  ⟨by simp [nils], .inr ⟨X, h, _, rfl, hlo, hX, Nat.le_refl _, by unfold maxLen; omega, by simp [nils], by simp [nils]⟩⟩
/-- What holds in the midst of the making, whatever has been done of it. -/
structure R9 (W v : World) (P : Nat) (l : List Int) (x : Int) (t : List Int) (h kb ko kc bb bo bc : Nat) (b0 b1 b2 b3 b4 b5 b6 b7 b8 b9 b10 b11 b12 b13 b14 : Bool) (x9 x32 x33 x34 x35 x36 x37 x38 x39 x40 x41 x42 x43 x44 : Value) : Prop where
  bel : Below W.heap.size W v
  f0 : b0 = true → b3 = false → ∃ X, x32 = .slice (some ⟨X, 0, none⟩) 0 0 ∧ W.heap.size ≤ X ∧ v.heap[X]? = some (.cells #[] 2 (0, 0))
  f07 : b0 = true → b3 = false → b7 = true → b9 = false → x32 ≠ x39
  f1 : b1 = true → x33 = .pointer (some ⟨P, 0, none⟩)
  f2 : b2 = true → x34 = .slice (some ⟨kb, ko, none⟩) l.length kc
  f3 : b3 = true → ∃ g c, x35 = .slice (some ⟨g, 0, none⟩) l.length c ∧ v.ownsRow W.heap.size 2 1 x35 l.length (ints l)
  f4 : b4 = true → x36 = .pointer (some ⟨P, 1, none⟩)
  f5 : b5 = true → x37 = .int .i64 x
  f6 : b6 = true → b3 = true ∧ ∃ g c, x35 = .slice (some ⟨g, 0, none⟩) l.length c ∧ x38 = .agg #[.slice (some ⟨g, 0, none⟩) l.length c, .int .i64 x]
  f7 : b7 = true → b9 = false → ∃ X, x39 = .slice (some ⟨X, 0, none⟩) 0 0 ∧ W.heap.size ≤ X ∧ v.heap[X]? = some (.cells #[] 2 (0, 0))
  f8 : b8 = true → x40 = .slice (some ⟨bb, bo, none⟩) t.length bc
  f9 : b9 = true → b3 = true ∧ ∃ g c, x41 = .slice (some ⟨g, 0, none⟩) t.length c ∧ v.ownsRow W.heap.size 2 1 x41 t.length (ints t)
  f10 : b10 = true → x42 = .int .i64 (h : Int)
  f11 : b11 = true → ∃ X, x43 = .slice (some ⟨X, 0, none⟩) h h ∧ v.ownsRow W.heap.size 22 1 x43 h (nils h)
  f12 : b12 = true → b3 = true ∧ b9 = true ∧ b11 = true ∧ ∃ g c g2 c2 X, x35 = .slice (some ⟨g, 0, none⟩) l.length c ∧ x41 = .slice (some ⟨g2, 0, none⟩) t.length c2 ∧ x43 = .slice (some ⟨X, 0, none⟩) h h ∧ x44 = .agg #[.slice (some ⟨g, 0, none⟩) l.length c, .int .i64 x, .slice (some ⟨g2, 0, none⟩) t.length c2, .slice none 0 0, .slice none 0 0, .slice none 0 0, .slice (some ⟨X, 0, none⟩) h h]
  f13 : b13 = true → b14 = false → ∃ R, x9 = .pointer (some ⟨R, 0, none⟩) ∧ W.heap.size ≤ R ∧ v.heap[R]? = some (.cells #[.slice none 0 0, .int .i64 0, .slice none 0 0, .slice none 0 0, .slice none 0 0, .slice none 0 0, .slice none 0 0] 32 (0, 0))
  f14 : b14 = true → b12 = true ∧ b13 = true ∧ ∃ R, x9 = .pointer (some ⟨R, 0, none⟩) ∧ W.heap.size ≤ R ∧ v.heap[R]? = some (.cells #[x35, .int .i64 x, x41, .slice none 0 0, .slice none 0 0, .slice none 0 0, x43] 32 (0, 0))
theorem row_filled {w : World} {base n X : Nat} {e T : TypeId} {v : Value} {xs : List Value} (h : w.ownsRow base e 1 v n xs) (hn : 1 ≤ n) (hX : w.heap[X]? = some (.cells #[] T (0, 0))) : v.ownBlock ≠ some X := by
  rcases id h.2 with ⟨rfl, _⟩ | ⟨g, c, cur, rfl, _, hh, hnc, _, hsz, _⟩
  · simp [Value.ownBlock]
  · simp only [Value.ownBlock, ne_eq, Option.some.injEq]
    rintro rfl
    rw [hX] at hh
    simp at hh
    have := hh.1
    subst this
    simp at hsz
    omega
section
variable {W v v2 : World} {P : Nat} {l : List Int} {x : Int} {t : List Int} {h kb ko kc bb bo bc : Nat} {b0 b1 b2 b3 b4 b5 b6 b7 b8 b9 b10 b11 b12 b13 b14 : Bool} {x9 x32 x33 x34 x35 x36 x37 x38 x39 x40 x41 x42 x43 x44 : Value}
theorem R9.mem (H : R9 W v P l x t h kb ko kc bb bo bc b0 b1 b2 b3 b4 b5 b6 b7 b8 b9 b10 b11 b12 b13 b14 x9 x32 x33 x34 x35 x36 x37 x38 x39 x40 x41 x42 x43 x44) (hb : Below v.heap.size v v2) : R9 W v2 P l x t h kb ko kc bb bo bc b0 b1 b2 b3 b4 b5 b6 b7 b8 b9 b10 b11 b12 b13 b14 x9 x32 x33 x34 x35 x36 x37 x38 x39 x40 x41 x42 x43 x44 where
  bel := H.bel.trans (hb.mono H.bel.size)
  f0 h1 h2 := by obtain ⟨X, e, hX, hv⟩ := H.f0 h1 h2; exact ⟨X, e, hX, (keepb hv hb).out⟩
  f07 := H.f07
  f1 := H.f1
  f2 := H.f2
  f3 h1 := by obtain ⟨g, c, e, hr⟩ := H.f3 h1; exact ⟨g, c, e, row_below hr hb⟩
  f4 := H.f4
  f5 := H.f5
  f6 := H.f6
  f7 h1 h2 := by obtain ⟨X, e, hX, hv⟩ := H.f7 h1 h2; exact ⟨X, e, hX, (keepb hv hb).out⟩
  f8 := H.f8
  f9 h1 := by obtain ⟨h2, g, c, e, hr⟩ := H.f9 h1; exact ⟨h2, g, c, e, row_below hr hb⟩
  f10 := H.f10
  f11 h1 := by obtain ⟨X, e, hr⟩ := H.f11 h1; exact ⟨X, e, row_below hr hb⟩
  f12 := H.f12
  f13 h1 h2 := by obtain ⟨R, e, hR, hv⟩ := H.f13 h1 h2; exact ⟨R, e, hR, (keepb hv hb).out⟩
  f14 h1 := by obtain ⟨h2, h3, R, e, hR, hv⟩ := H.f14 h1; exact ⟨h2, h3, R, e, hR, (keepb hv hb).out⟩
/-- The keys' copy. -/
theorem R9.app1 (H : R9 W v P l x t h kb ko kc bb bo bc true b1 b2 false b4 b5 b6 b7 b8 b9 b10 b11 b12 b13 b14 x9 x32 x33 x34 x35 x36 x37 x38 x39 x40 x41 x42 x43 x44) {X g c : Nat} (e32 : x32 = .slice (some ⟨X, 0, none⟩) 0 0) (hX : v.heap[X]? = some (.cells #[] 2 (0, 0))) (hrow : v2.ownsRow W.heap.size 2 1 (.slice (some ⟨g, 0, none⟩) l.length c) l.length (ints l)) (hg : v.grownBy v2 (some X)) (hWX : W.heap.size ≤ X) : R9 W v2 P l x t h kb ko kc bb bo bc true b1 b2 true b4 b5 b6 b7 b8 b9 b10 b11 b12 b13 b14 x9 x32 x33 x34 (.slice (some ⟨g, 0, none⟩) l.length c) x36 x37 x38 x39 x40 x41 x42 x43 x44 where
  bel := H.bel.grown hg H.bel.size (fun k hk => by cases hk; exact hWX)
  f0 _ h2 := by cases h2
  f07 _ h2 := by cases h2
  f1 := H.f1
  f2 := H.f2
  f3 _ := ⟨g, c, rfl, hrow⟩
  f4 := H.f4
  f5 := H.f5
  f6 h1 := by cases (H.f6 h1).1
  f7 h1 h2 := by
    obtain ⟨Y, e, hY, hv⟩ := H.f7 h1 h2
    have hne : Y ≠ X := fun e2 => H.f07 rfl rfl h1 h2 (by rw [e, e32, e2])
    exact ⟨Y, e, hY, (hg.block Y (lt_of_block hv) (by simpa using hne)).trans hv⟩
  f8 := H.f8
  f9 h1 := by cases (H.f9 h1).1
  f10 := H.f10
  f11 h1 := by
    obtain ⟨Y, e, hr⟩ := H.f11 h1
    exact ⟨Y, e, hr.kept hg (.inr (row_neV hr hX (Ne.symm neI1)))⟩
  f12 h1 := by cases (H.f12 h1).1
  f13 h1 h2 := by
    obtain ⟨R, e, hR, hv⟩ := H.f13 h1 h2
    exact ⟨R, e, hR, (hg.block R (lt_of_block hv) (fun e2 => by cases e2; rw [hX] at hv; simp at hv)).trans hv⟩
  f14 h1 := by cases (H.f12 (H.f14 h1).1).1
/-- The copy of who is bad. -/
theorem R9.app2 (H : R9 W v P l x t h kb ko kc bb bo bc b0 b1 b2 true b4 b5 b6 true b8 false b10 b11 b12 b13 b14 x9 x32 x33 x34 x35 x36 x37 x38 x39 x40 x41 x42 x43 x44) (hn : 1 ≤ l.length) {X g c : Nat} (hX : v.heap[X]? = some (.cells #[] 2 (0, 0))) (hrow : v2.ownsRow W.heap.size 2 1 (.slice (some ⟨g, 0, none⟩) t.length c) t.length (ints t)) (hg : v.grownBy v2 (some X)) (hWX : W.heap.size ≤ X) : R9 W v2 P l x t h kb ko kc bb bo bc b0 b1 b2 true b4 b5 b6 true b8 true b10 b11 b12 b13 b14 x9 x32 x33 x34 x35 x36 x37 x38 x39 x40 (.slice (some ⟨g, 0, none⟩) t.length c) x42 x43 x44 where
  bel := H.bel.grown hg H.bel.size (fun k hk => by cases hk; exact hWX)
  f0 _ h2 := by cases h2
  f07 _ h2 := by cases h2
  f1 := H.f1
  f2 := H.f2
  f3 h1 := by obtain ⟨g1, c1, e, hr⟩ := H.f3 h1; exact ⟨g1, c1, e, hr.kept hg (.inr (row_filled hr hn hX))⟩
  f4 := H.f4
  f5 := H.f5
  f6 := H.f6
  f7 _ h2 := by cases h2
  f8 := H.f8
  f9 _ := ⟨rfl, g, c, rfl, hrow⟩
  f10 := H.f10
  f11 h1 := by
    obtain ⟨Y, e, hr⟩ := H.f11 h1
    exact ⟨Y, e, hr.kept hg (.inr (row_neV hr hX (Ne.symm neI1)))⟩
  f12 h1 := by cases (H.f12 h1).2.1
  f13 h1 h2 := by
    obtain ⟨R, e, hR, hv⟩ := H.f13 h1 h2
    exact ⟨R, e, hR, (hg.block R (lt_of_block hv) (fun e2 => by cases e2; rw [hX] at hv; simp at hv)).trans hv⟩
  f14 h1 := by cases (H.f12 (H.f14 h1).1).2.1
/-- What is made is laid into its block. -/
theorem R9.sto {R g c g2 c2 X : Nat} (H : R9 W v P l x t h kb ko kc bb bo bc b0 b1 b2 b3 b4 b5 b6 b7 b8 b9 b10 b11 true true false (.pointer (some ⟨R, 0, none⟩)) x32 x33 x34 (.slice (some ⟨g, 0, none⟩) l.length c) x36 x37 x38 x39 x40 (.slice (some ⟨g2, 0, none⟩) t.length c2) x42 (.slice (some ⟨X, 0, none⟩) h h) x44) (hR : v.heap[R]? = some (.cells #[.slice none 0 0, .int .i64 0, .slice none 0 0, .slice none 0 0, .slice none 0 0, .slice none 0 0, .slice none 0 0] 32 (0, 0))) (hWR : W.heap.size ≤ R) : R9 W (((((((v.setCell ⟨R, 0, none⟩ (.slice (some ⟨g, 0, none⟩) l.length c)).setCell ⟨R, 1, none⟩ (.int .i64 x)).setCell ⟨R, 2, none⟩ (.slice (some ⟨g2, 0, none⟩) t.length c2)).setCell ⟨R, 3, none⟩ (.slice none 0 0)).setCell ⟨R, 4, none⟩ (.slice none 0 0)).setCell ⟨R, 5, none⟩ (.slice none 0 0)).setCell ⟨R, 6, none⟩ (.slice (some ⟨X, 0, none⟩) h h)) P l x t h kb ko kc bb bo bc b0 b1 b2 b3 b4 b5 b6 b7 b8 b9 b10 b11 true true true (.pointer (some ⟨R, 0, none⟩)) x32 x33 x34 (.slice (some ⟨g, 0, none⟩) l.length c) x36 x37 x38 x39 x40 (.slice (some ⟨g2, 0, none⟩) t.length c2) x42 (.slice (some ⟨X, 0, none⟩) h h) x44 := by
  obtain ⟨h3, h9, h11, _⟩ := H.f12 rfl
  obtain ⟨_, _, _, r3⟩ := H.f3 h3
  obtain ⟨_, _, _, _, r9⟩ := H.f9 h9
  obtain ⟨_, _, r11⟩ := H.f11 h11
  have HC : ClR false W.heap.size v l t [] h (some ⟨g, 0, none⟩) c (some ⟨g2, 0, none⟩) c2 none 0 (some ⟨X, 0, none⟩) h := ⟨r3, r9, (fun e => (by cases e)), World.ownsRow_nil _ _ _ _, r11⟩
  have HC2 := HC.set7 hR neC1 neC2 neC3 (.slice (some ⟨g, 0, none⟩) l.length c) (.int .i64 x) (.slice (some ⟨g2, 0, none⟩) t.length c2) (.slice none 0 0) (.slice none 0 0) (.slice none 0 0) (.slice (some ⟨X, 0, none⟩) h h)
  exact {
    bel := below_set7V H.bel hWR _ _ _ _ _ _ _
    f0 := fun _ h2 => by rw [h3] at h2; cases h2
    f07 := fun _ h2 => by rw [h3] at h2; cases h2
    f1 := H.f1
    f2 := H.f2
    f3 := fun _ => ⟨g, c, rfl, HC2.keys⟩
    f4 := H.f4
    f5 := H.f5
    f6 := H.f6
    f7 := fun _ h2 => by rw [h9] at h2; cases h2
    f8 := H.f8
    f9 := fun _ => ⟨h3, g2, c2, rfl, HC2.bad⟩
    f10 := H.f10
    f11 := fun _ => ⟨X, rfl, HC2.hrd⟩
    f12 := H.f12
    f13 := fun _ h2 => by cases h2
    f14 := fun _ => ⟨rfl, rfl, R, rfl, hWR, set7V7 hR _ _ _ _ _ _ _⟩ }
end

set_option maxRecDepth 20000 in
set_option maxHeartbeats 8000000 in
theorem sNewCluster_any (kb ko kc bb bo bc : Nat) (l t : List Int) (x hr : Int) (w : World) (hl : l.length ≤ 1048576) (ht : t.length ≤ 1048576) (hI : IAt w (some ⟨kb, ko, none⟩) l.length l) (hJ : IAt w (some ⟨bb, bo, none⟩) t.length t) :
    Calls Try.prog 5 #[.agg #[.slice (some ⟨kb, ko, none⟩) l.length kc, .int .i64 x], .slice (some ⟨bb, bo, none⟩) t.length bc, .int .i64 hr] w fun e w' => OutNc false w w' e (cluR l x t hr) := by
  obtain ⟨w0, hw0⟩ : ∃ W, W = (w.alloc (.cells #[.slice (some ⟨kb, ko, none⟩) l.length kc, .int .i64 x] 26)).alloc (.cells #[.int .i64 0, .slice none 0 0, .int .i64 0, .slice none 0 0, .slice none 0 0, .slice none 0 0, .slice none 0 0, .slice none 0 0] 34) := ⟨_, rfl⟩
  have HW0 : Hid (w0 = (w.alloc (.cells #[.slice (some ⟨kb, ko, none⟩) l.length kc, .int .i64 x] 26)).alloc (.cells #[.int .i64 0, .slice none 0 0, .int .i64 0, .slice none 0 0, .slice none 0 0, .slice none 0 0, .slice none 0 0, .slice none 0 0] 34)) := hw0
  have HBL : Hid (Below w.heap.size w w0) := by rw [hw0]; exact below_box2 _ _
  have HXB : Hid (w0.heap[w.heap.size]? = some (.cells #[.slice (some ⟨kb, ko, none⟩) l.length kc, .int .i64 x] 26 (0, 0))) := by rw [hw0]; exact block_at2
  have HXR : Hid (w0.heap[w.heap.size + 1]? = some (.cells #[.int .i64 0, .slice none 0 0, .int .i64 0, .slice none 0 0, .slice none 0 0, .slice none 0 0, .slice none 0 0, .slice none 0 0] 34 (0, 0))) := by rw [hw0]; exact heap_alloc_at _ _ _ (by simp)
  have hF := l10Fault_any w.heap.size l.length kc _ l x w0 hl (hI.below HBL.out (Nat.le_refl _)) HXB.out
  have HI : Hid (IAt w (some ⟨kb, ko, none⟩) l.length l) := hI
  have HJ : Hid (IAt w (some ⟨bb, bo, none⟩) t.length t) := hJ
  obtain ⟨kh, hkh⟩ : ∃ b, b = inB hr 1 4 := ⟨_, rfl⟩
  have hW : ∀ v, Calls Try.prog 19 #[.int .i64 hr, .int .i64 1, .int .i64 4] v fun e w' => e = .returned (.bool kh) ∧ w' = v := fun v => by rw [hkh]; exact l1In_any _ _ _ v
  obtain ⟨q, hq⟩ : ∃ q, q = quoR l x := ⟨_, rfl⟩
  obtain ⟨bd, hbd⟩ : ∃ q, q = badR t := ⟨_, rfl⟩
  have HBd : Hid (∀ v, Below w.heap.size w v → Calls Try.prog 20 #[.slice (some ⟨bb, bo, none⟩) t.length bc] v fun e w' => e = .returned (.int .i64 bd) ∧ Below v.heap.size v w') := fun v hv => by rw [hbd]; exact l12Bad_any t.length bc _ t v ht (hJ.below hv (Nat.le_refl _))
  obtain ⟨c, hc⟩ : ∃ c, c = cluC l x t hr := ⟨_, rfl⟩
  have hcc : c = if q ≠ 0 then q else if 20 < t.length ∨ kh = false then 2 else bd := by rw [hc, hq, hkh, hbd]; rfl
  rw [← hq] at hF
  rw [hw0] at hF
  have HC : Hid (c = cluC l x t hr) := hc
  clear hI hJ hw0 hq hbd hkh hc
  have hbad : c ≠ 0 → cluR l x t hr = ⟨c, [], 0, [], [], 0⟩ := fun h0 => by unfold cluR; rw [if_neg (by rw [← HC.out]; exact h0), ← HC.out]
  by_cases h0 : q = 0
  · subst h0
    rw [if_neg (by simp)] at hcc
    by_cases h20 : 20 < t.length
    · rw [if_pos (.inl h20)] at hcc
      rw [hbad (by omega), hcc]
      have hki : (20 : Int) < (t.length : Int) := by omega
      clear hbad hcc HC
      go_enter Try.func5, Try.ntmps5
      go_wp2_with (first
        | (go_at_call 17; (with_reducible refine hF.mono ?_); clear hF; rintro e v1 ⟨rfl, hb1⟩; rw [← HW0.out] at hb1; have HBV : Hid (Below w.heap.size w v1) := HBL.out.trans (hb1.mono HBL.out.size); have HXV := keepb HXR.out hb1; have HXQ := keepb HXB.out hb1; have hBd := HBd.out v1 HBV.out; clear hb1)
        | (go_at_call 18; (with_reducible refine (l12Err_any 2 _).mono ?_); rintro e we ⟨rfl, hbe⟩; have HBE : Hid (Below w.heap.size w we) := HBV.out.trans (hbe.mono HBV.out.size); have HXE := keepb HXV.out hbe; obtain ⟨y0, y1, y2, y3, y4, y5, y6, y7⟩ := cells8V HXE.out; have f0 := Joins.unfrozen_of_block HXE.out 0; have f1 := Joins.unfrozen_of_block HXE.out 1; have f2 := Joins.unfrozen_of_block HXE.out 2; have f3 := Joins.unfrozen_of_block HXE.out 3; have f4 := Joins.unfrozen_of_block HXE.out 4; have f5 := Joins.unfrozen_of_block HXE.out 5; have f6 := Joins.unfrozen_of_block HXE.out 6; have f7 := Joins.unfrozen_of_block HXE.out 7; clear hbe))
      obtain ⟨s0, s1, s2, s3, s4, s5, s6, s7⟩ := cells8V (set8V8 HXE.out (.int .i64 2) (.slice none 0 0) (.int .i64 0) (.slice none 0 0) (.slice none 0 0) (.slice none 0 0) (.slice none 0 0) (.slice none 0 0))
      refine bodyPost_ret (v := .agg #[.int .i64 2, .slice none 0 0, .int .i64 0, .slice none 0 0, .slice none 0 0, .slice none 0 0, .slice none 0 0, .slice none 0 0]) (by simp [results, Try.results5, go_sem, s0, s1, s2, s3, s4, s5, s6, s7]) rfl ⟨none, 0, none, 0, none, 0, none, 0, rfl, ClR.nil _ _ _, ?_⟩
      exact below_set8V HBE.out (by omega) _ _ _ _ _ _ _ _
    have hki : ¬ (20 : Int) < (t.length : Int) := by omega
    cases kh
    · rw [if_pos (.inr rfl)] at hcc
      rw [hbad (by omega), hcc]
      clear hbad hcc HC
      go_enter Try.func5, Try.ntmps5
      go_wp2_with (first
        | (go_at_call 17; (with_reducible refine hF.mono ?_); clear hF; rintro e v1 ⟨rfl, hb1⟩; rw [← HW0.out] at hb1; have HBV : Hid (Below w.heap.size w v1) := HBL.out.trans (hb1.mono HBL.out.size); have HXV := keepb HXR.out hb1; have HXQ := keepb HXB.out hb1; have hBd := HBd.out v1 HBV.out; clear hb1)
        | (go_at_call 19; (with_reducible refine (hW _).mono ?_); rintro e w' ⟨rfl, hw⟩; have hw2 := hw.symm; subst hw2)
        | (go_at_call 18; (with_reducible refine (l12Err_any 2 _).mono ?_); rintro e we ⟨rfl, hbe⟩; have HBE : Hid (Below w.heap.size w we) := HBV.out.trans (hbe.mono HBV.out.size); have HXE := keepb HXV.out hbe; obtain ⟨y0, y1, y2, y3, y4, y5, y6, y7⟩ := cells8V HXE.out; have f0 := Joins.unfrozen_of_block HXE.out 0; have f1 := Joins.unfrozen_of_block HXE.out 1; have f2 := Joins.unfrozen_of_block HXE.out 2; have f3 := Joins.unfrozen_of_block HXE.out 3; have f4 := Joins.unfrozen_of_block HXE.out 4; have f5 := Joins.unfrozen_of_block HXE.out 5; have f6 := Joins.unfrozen_of_block HXE.out 6; have f7 := Joins.unfrozen_of_block HXE.out 7; clear hbe))
      obtain ⟨s0, s1, s2, s3, s4, s5, s6, s7⟩ := cells8V (set8V8 HXE.out (.int .i64 2) (.slice none 0 0) (.int .i64 0) (.slice none 0 0) (.slice none 0 0) (.slice none 0 0) (.slice none 0 0) (.slice none 0 0))
      refine bodyPost_ret (v := .agg #[.int .i64 2, .slice none 0 0, .int .i64 0, .slice none 0 0, .slice none 0 0, .slice none 0 0, .slice none 0 0, .slice none 0 0]) (by simp [results, Try.results5, go_sem, s0, s1, s2, s3, s4, s5, s6, s7]) rfl ⟨none, 0, none, 0, none, 0, none, 0, rfl, ClR.nil _ _ _, ?_⟩
      exact below_set8V HBE.out (by omega) _ _ _ _ _ _ _ _
    rw [if_neg (by simp; omega)] at hcc
    subst hcc
    by_cases hb0 : c = 0
    · subst hb0
      have hR : cluR l x t hr = ⟨0, l, x, t, goodL l t, hr.toNat⟩ := by unfold cluR; rw [if_pos HC.out.symm]
      rw [hR]
      obtain ⟨⟨hl1, hl8, hkl⟩, ht20, hkt, hr1, hr4⟩ := cluC_zero HC.out.symm
      obtain ⟨h, rfl⟩ : ∃ h : Nat, hr = (h : Int) := ⟨hr.toNat, by omega⟩
      simp only [Int.toNat_natCast]
      obtain ⟨gl, hgl⟩ : ∃ gl, gl = goodL l t := ⟨_, rfl⟩
      have HGL : Hid (gl = goodL l t) := hgl
      rw [← hgl]
      have hh1 : 1 ≤ h := by omega
      have hh4 : h ≤ 4 := by omega
      clear hR hr1 hr4 hkl hkt hgl hbad HC
      go_enter Try.func5, Try.ntmps5
      go_wp2_with (first
        | (go_at_call 17; (with_reducible refine hF.mono ?_); clear hF; rintro e v1 ⟨rfl, hb1⟩; rw [← HW0.out] at hb1; have HBV : Hid (Below w.heap.size w v1) := HBL.out.trans (hb1.mono HBL.out.size); have HXV := keepb HXR.out hb1; have HXQ := keepb HXB.out hb1; have hBd := HBd.out v1 HBV.out; clear hb1)
        | (go_at_call 19; (with_reducible refine (hW _).mono ?_); rintro e w' ⟨rfl, hw⟩; have hw2 := hw.symm; subst hw2)
        | (go_at_call 20; (with_reducible refine hBd.mono ?_); clear hBd; rintro e w1 ⟨rfl, hb2⟩; have HB1 : Hid (Below w.heap.size w w1) := HBV.out.trans (hb2.mono HBV.out.size); have HX1 := keepb HXV.out hb2; have HQ1 := keepb HXQ.out hb2; clear hb2))
      have HI1 : Hid (IAt w1 (some ⟨kb, ko, none⟩) l.length l) := HI.out.below HB1.out (Nat.le_refl _)
      have HJ1 : Hid (IAt w1 (some ⟨bb, bo, none⟩) t.length t) := HJ.out.below HB1.out (Nat.le_refl _)
      obtain ⟨q0, q1⟩ := cells2 HQ1.out
      have hqlt := lt_of_block HQ1.out
      have hmk := makeN h hh1 hh4
      go_cut [9] (fun s wc => ∃ R, s = .pointer (some ⟨R, 0, none⟩) ∧ Hid (CuB false w1 wc R l x t [] h))
      case first =>
        refine wp_region_any (by kernel_rfl) ?_
        change wpAny _ _ _ _ _ _ _ (World.drew _)
        refine wpAny_inv (fun L a v => ∃ (b0 b1 b2 b3 b4 b5 b6 b7 b8 b9 b10 b11 b12 b13 b14 : Bool) (x9 x32 x33 x34 x35 x36 x37 x38 x39 x40 x41 x42 x43 x44 : Value), L = #[b0, b1, b2, b3, b4, b5, b6, b7, b8, b9, b10, b11, b12, b13, b14] ∧ a = { tmps := #[.agg #[.slice (some ⟨kb, ko, none⟩) l.length kc, .int .i64 x], .slice (some ⟨bb, bo, none⟩) t.length bc, .int .i64 (h : Int), .pointer (some ⟨w.heap.size, 0, none⟩), undef, undef, .pointer (some ⟨w.heap.size + 1, 0, none⟩), .int .i64 0, .int .i64 0, x9, undef, undef, .int .i64 0, .int .i64 0, .bool false, undef, undef, .slice (some ⟨bb, bo, none⟩) t.length bc, .int .i64 (t.length : Int), .bool (decide ((20 : Int) < (t.length : Int))), .bool (decide ((20 : Int) < (t.length : Int))), .int .i64 (h : Int), .bool true, .bool false, .bool (decide ((20 : Int) < (t.length : Int))), undef, .slice (some ⟨bb, bo, none⟩) t.length bc, .int .i64 0, .int .i64 0, .bool false, undef, undef, x32, x33, x34, x35, x36, x37, x38, x39, x40, x41, x42, x43, x44, undef, undef, undef, undef, undef, undef, undef, undef, undef, undef, undef, undef, undef, undef, undef, undef, undef, undef, undef, undef], defers := [] } ∧ R9 w1 v w.heap.size l x t h kb ko kc bb bo bc b0 b1 b2 b3 b4 b5 b6 b7 b8 b9 b10 b11 b12 b13 b14 x9 x32 x33 x34 x35 x36 x37 x38 x39 x40 x41 x42 x43 x44) ?step ?done _ _ _ _ (by simp) ?start
        case start =>
          refine ⟨false, false, false, false, false, false, false, false, false, false, false, false, false, false, false, undef, undef, undef, undef, undef, undef, undef, undef, undef, undef, undef, undef, undef, undef, rfl, rfl, ?_⟩
          exact { bel := (Below.refl _ _).drew, f0 := fun h1 => (by cases h1), f07 := fun h1 => (by cases h1), f1 := fun h1 => (by cases h1), f2 := fun h1 => (by cases h1), f3 := fun h1 => (by cases h1), f4 := fun h1 => (by cases h1), f5 := fun h1 => (by cases h1), f6 := fun h1 => (by cases h1), f7 := fun h1 => (by cases h1), f8 := fun h1 => (by cases h1), f9 := fun h1 => (by cases h1), f10 := fun h1 => (by cases h1), f11 := fun h1 => (by cases h1), f12 := fun h1 => (by cases h1), f13 := fun h1 => (by cases h1), f14 := fun h1 => (by cases h1) }
        case done =>
          rintro L a v ⟨b0, b1, b2, b3, b4, b5, b6, b7, b8, b9, b10, b11, b12, b13, b14, x9, x32, x33, x34, x35, x36, x37, x38, x39, x40, x41, x42, x43, x44, rfl, rfl, H⟩ hr
          have hall := ready_all (by kernel_rfl) hr
          obtain rfl : b3 = true := hall 3 (by decide)
          obtain rfl : b9 = true := hall 9 (by decide)
          obtain rfl : b11 = true := hall 11 (by decide)
          obtain rfl : b14 = true := hall 14 (by decide)
          obtain ⟨g, c, e35, r3⟩ := H.f3 rfl
          obtain ⟨_, g2, c2, e41, r9⟩ := H.f9 rfl
          obtain ⟨X, e43, r11⟩ := H.f11 rfl
          obtain ⟨_, _, R, e9, hWR, hR⟩ := H.f14 rfl
          subst e35 e41 e43 e9
          have HF : Hid (CuB false w1 v R l x t [] h) := ⟨hWR, H.bel, some ⟨g, 0, none⟩, c, some ⟨g2, 0, none⟩, c2, none, 0, some ⟨X, 0, none⟩, h, hR, ⟨r3, r9, fun e => (by cases e), World.ownsRow_nil _ _ _ _, r11⟩⟩
          go_wp2
          go_meet
          exact ⟨R, rfl, HF⟩
        case step =>
          rintro L a v i ⟨b0, b1, b2, b3, b4, b5, b6, b7, b8, b9, b10, b11, b12, b13, b14, x9, x32, x33, x34, x35, x36, x37, x38, x39, x40, x41, x42, x43, x44, rfl, rfl, H⟩ hi
          have hlt : i < 15 := ready_lt hi
          obtain rfl | rfl | rfl | rfl | rfl | rfl | rfl | rfl | rfl | rfl | rfl | rfl | rfl | rfl | rfl : i = 0 ∨ i = 1 ∨ i = 2 ∨ i = 3 ∨ i = 4 ∨ i = 5 ∨ i = 6 ∨ i = 7 ∨ i = 8 ∨ i = 9 ∨ i = 10 ∨ i = 11 ∨ i = 12 ∨ i = 13 ∨ i = 14 := by omega
          · obtain rfl : b0 = false := ready_new hi
            refine wpOp_run (o := _) rfl (fun K hK => ?_)
            go_simp
            refine hK _ _ ?_
            exact ⟨_, _, _, _, _, _, _, _, _, _, _, _, _, _, _, _, _, _, _, _, _, _, _, _, _, _, _, _, _, rfl, rfl, { (H.mem (below_box _)) with f0 := fun _ _ => ⟨v.heap.size, rfl, H.bel.size, heap_alloc_new _ _⟩, f07 := fun _ _ h7 h9 e => (by obtain ⟨Y, e2, _, hv⟩ := H.f7 h7 h9; rw [e2] at e; cases e; have := lt_of_block hv; omega) }⟩
          · obtain rfl : b1 = false := ready_new hi
            refine wpOp_run (o := _) rfl (fun K hK => ?_)
            go_simp
            refine hK _ _ ?_
            exact ⟨_, _, _, _, _, _, _, _, _, _, _, _, _, _, _, _, _, _, _, _, _, _, _, _, _, _, _, _, _, rfl, rfl, { H with f1 := fun _ => rfl }⟩
          · obtain rfl : b2 = false := ready_new hi
            obtain rfl : b1 = true := ready_dep (d := 1) hi (by kernel_rfl)
            obtain rfl := H.f1 rfl
            have y0 := (H.bel.cell (p := ⟨w.heap.size, 0, none⟩) hqlt).trans q0
            refine wpOp_run (o := _) rfl (fun K hK => ?_)
            go_simp
            refine hK _ _ ?_
            exact ⟨_, _, _, _, _, _, _, _, _, _, _, _, _, _, _, _, _, _, _, _, _, _, _, _, _, _, _, _, _, rfl, rfl, { H with f2 := fun _ => rfl }⟩
          · obtain rfl : b3 = false := ready_new hi
            obtain rfl : b0 = true := ready_dep (d := 0) hi (by kernel_rfl)
            obtain rfl : b2 = true := ready_dep (d := 2) hi (by kernel_rfl)
            obtain rfl := H.f2 rfl
            obtain ⟨X, e32, hWX, hX⟩ := H.f0 rfl rfl
            obtain ⟨g, c, v2, hrun, HW⟩ := keys_added (W := v) (X := X) (c := kc) (base := w1.heap.size) hX hWX (HI1.out.below H.bel (Nat.le_refl _)) (by omega) H.bel.size
            obtain ⟨hrow, hg⟩ := HW.out
            subst e32
            refine wpOp_run (o := _) rfl (fun K hK => ?_)
            refine step_append_runZ (by rfl) (.tmp 32) (.tmp 34) 22 (by rfl) (by rfl) (by rfl) hrun ?_
            refine hK _ _ ?_
            exact ⟨_, _, _, _, _, _, _, _, _, _, _, _, _, _, _, _, _, _, _, _, _, _, _, _, _, _, _, _, _, rfl, rfl, H.app1 rfl hX hrow hg hWX⟩
          · obtain rfl : b4 = false := ready_new hi
            refine wpOp_run (o := _) rfl (fun K hK => ?_)
            go_simp
            refine hK _ _ ?_
            exact ⟨_, _, _, _, _, _, _, _, _, _, _, _, _, _, _, _, _, _, _, _, _, _, _, _, _, _, _, _, _, rfl, rfl, { H with f4 := fun _ => rfl }⟩
          · obtain rfl : b5 = false := ready_new hi
            obtain rfl : b4 = true := ready_dep (d := 4) hi (by kernel_rfl)
            obtain rfl := H.f4 rfl
            have y1 := (H.bel.cell (p := ⟨w.heap.size, 1, none⟩) hqlt).trans q1
            refine wpOp_run (o := _) rfl (fun K hK => ?_)
            go_simp
            refine hK _ _ ?_
            exact ⟨_, _, _, _, _, _, _, _, _, _, _, _, _, _, _, _, _, _, _, _, _, _, _, _, _, _, _, _, _, rfl, rfl, { H with f5 := fun _ => rfl }⟩
          · obtain rfl : b6 = false := ready_new hi
            obtain rfl : b3 = true := ready_dep (d := 3) hi (by kernel_rfl)
            obtain rfl : b5 = true := ready_dep (d := 5) hi (by kernel_rfl)
            obtain rfl := H.f5 rfl
            obtain ⟨g, c, e, _⟩ := H.f3 rfl
            subst e
            refine wpOp_run (o := _) rfl (fun K hK => ?_)
            go_simp
            refine hK _ _ ?_
            exact ⟨_, _, _, _, _, _, _, _, _, _, _, _, _, _, _, _, _, _, _, _, _, _, _, _, _, _, _, _, _, rfl, rfl, { H with f6 := fun _ => ⟨rfl, g, c, rfl, rfl⟩ }⟩
          · obtain rfl : b7 = false := ready_new hi
            refine wpOp_run (o := _) rfl (fun K hK => ?_)
            go_simp
            refine hK _ _ ?_
            exact ⟨_, _, _, _, _, _, _, _, _, _, _, _, _, _, _, _, _, _, _, _, _, _, _, _, _, _, _, _, _, rfl, rfl, { (H.mem (below_box _)) with f7 := fun _ _ => ⟨v.heap.size, rfl, H.bel.size, heap_alloc_new _ _⟩, f07 := fun h0 h3 _ _ e => (by obtain ⟨Y, e2, _, hv⟩ := H.f0 h0 h3; rw [e2] at e; cases e; have := lt_of_block hv; omega) }⟩
          · obtain rfl : b8 = false := ready_new hi
            refine wpOp_run (o := _) rfl (fun K hK => ?_)
            go_simp
            refine hK _ _ ?_
            exact ⟨_, _, _, _, _, _, _, _, _, _, _, _, _, _, _, _, _, _, _, _, _, _, _, _, _, _, _, _, _, rfl, rfl, { H with f8 := fun _ => rfl }⟩
          · obtain rfl : b9 = false := ready_new hi
            obtain rfl : b7 = true := ready_dep (d := 7) hi (by kernel_rfl)
            obtain rfl : b8 = true := ready_dep (d := 8) hi (by kernel_rfl)
            obtain rfl : b3 = true := ready_dep (d := 3) hi (by kernel_rfl)
            obtain rfl := H.f8 rfl
            obtain ⟨X, e39, hWX, hX⟩ := H.f7 rfl rfl
            obtain ⟨g, c, v2, hrun, HW⟩ := keys_added (W := v) (X := X) (c := bc) (base := w1.heap.size) hX hWX (HJ1.out.below H.bel (Nat.le_refl _)) (by omega) H.bel.size
            obtain ⟨hrow, hg⟩ := HW.out
            subst e39
            refine wpOp_run (o := _) rfl (fun K hK => ?_)
            refine step_append_runZ (by rfl) (.tmp 39) (.tmp 40) 22 (by rfl) (by rfl) (by rfl) hrun ?_
            refine hK _ _ ?_
            exact ⟨_, _, _, _, _, _, _, _, _, _, _, _, _, _, _, _, _, _, _, _, _, _, _, _, _, _, _, _, _, rfl, rfl, H.app2 hl1 hX hrow hg hWX⟩
          · obtain rfl : b10 = false := ready_new hi
            refine wpOp_run (o := _) rfl (fun K hK => ?_)
            go_simp
            refine hK _ _ ?_
            exact ⟨_, _, _, _, _, _, _, _, _, _, _, _, _, _, _, _, _, _, _, _, _, _, _, _, _, _, _, _, _, rfl, rfl, { H with f10 := fun _ => rfl }⟩
          · obtain rfl : b11 = false := ready_new hi
            obtain rfl : b10 = true := ready_dep (d := 10) hi (by kernel_rfl)
            obtain rfl := H.f10 rfl
            refine wpOp_run (o := _) rfl (fun K hK => ?_)
            go_simp
            refine hK _ _ ?_
            exact ⟨_, _, _, _, _, _, _, _, _, _, _, _, _, _, _, _, _, _, _, _, _, _, _, _, _, _, _, _, _, rfl, rfl, { (H.mem (below_box _)) with f11 := fun _ => ⟨v.heap.size, rfl, nils_row (heap_alloc_new _ _) H.bel.size hh4⟩, f12 := fun h1 => (by cases (H.f12 h1).2.2.1), f14 := fun h1 => (by cases (H.f12 (H.f14 h1).1).2.2.1) }⟩
          · obtain rfl : b12 = false := ready_new hi
            obtain rfl : b6 = true := ready_dep (d := 6) hi (by kernel_rfl)
            obtain rfl : b9 = true := ready_dep (d := 9) hi (by kernel_rfl)
            obtain rfl : b11 = true := ready_dep (d := 11) hi (by kernel_rfl)
            obtain ⟨h3, g, c, e35, e38⟩ := H.f6 rfl
            obtain ⟨_, g2, c2, e41, _⟩ := H.f9 rfl
            obtain ⟨X, e43, _⟩ := H.f11 rfl
            subst e35 e38 e41 e43
            refine wpOp_run (o := _) rfl (fun K hK => ?_)
            go_simp
            refine hK _ _ ?_
            exact ⟨_, _, _, _, _, _, _, _, _, _, _, _, _, _, _, _, _, _, _, _, _, _, _, _, _, _, _, _, _, rfl, rfl, { H with f12 := fun _ => ⟨h3, rfl, rfl, g, c, g2, c2, X, rfl, rfl, rfl, rfl⟩, f14 := fun h1 => (by cases (H.f14 h1).1) }⟩
          · obtain rfl : b13 = false := ready_new hi
            refine wpOp_run (o := _) rfl (fun K hK => ?_)
            go_simp
            refine hK _ _ ?_
            exact ⟨_, _, _, _, _, _, _, _, _, _, _, _, _, _, _, _, _, _, _, _, _, _, _, _, _, _, _, _, _, rfl, rfl, { (H.mem (below_box _)) with f13 := fun _ _ => ⟨v.heap.size, rfl, H.bel.size, heap_alloc_new _ _⟩, f14 := fun h1 => (by cases (H.f14 h1).2.1) }⟩
          · obtain rfl : b14 = false := ready_new hi
            obtain rfl : b12 = true := ready_dep (d := 12) hi (by kernel_rfl)
            obtain rfl : b13 = true := ready_dep (d := 13) hi (by kernel_rfl)
            obtain ⟨h3, h9, h11, g, c, g2, c2, X, e35, e41, e43, e44⟩ := H.f12 rfl
            obtain ⟨R, e9, hWR, hR⟩ := H.f13 rfl rfl
            subst e35 e41 e43 e44 e9
            obtain ⟨z0, z1, z2, z3, z4, z5, z6⟩ := cells7V hR
            have g0 := Joins.unfrozen_of_block hR 0
            have g1 := Joins.unfrozen_of_block hR 1
            have g2 := Joins.unfrozen_of_block hR 2
            have g3 := Joins.unfrozen_of_block hR 3
            have g4 := Joins.unfrozen_of_block hR 4
            have g5 := Joins.unfrozen_of_block hR 5
            have g6 := Joins.unfrozen_of_block hR 6
            refine wpOp_run (o := _) rfl (fun K hK => ?_)
            go_simp
            refine hK _ _ ?_
            exact ⟨_, _, _, _, _, _, _, _, _, _, _, _, _, _, _, _, _, _, _, _, _, _, _, _, _, _, _, _, _, rfl, rfl, H.sto hR hWR⟩
      case rest =>
        obtain ⟨R, hs, HS⟩ := hcut
        subst hs
        have hbc : Below w1.heap.size w1 wc := HS.out.2.1
        have hG := l12Good_any w.heap.size l.length kc t.length bc _ _ l t x wc hl8 (by unfold maxLen; omega) (HI1.out.below hbc (Nat.le_refl _)) (HJ1.out.below hbc (Nat.le_refl _)) ((hbc.block _ hqlt).trans HQ1.out)
        rw [← HGL.out] at hG
        have hg8 : gl.length ≤ 8 := by rw [HGL.out]; exact Nat.le_trans (good_le l t) hl8
        clear hbc q0 q1 hmk
        go_wp2_with (go_at_call 21; (with_reducible refine hG.mono ?_); clear hG; rintro e u2 ⟨ga, gc, rfl, hgr, hb2⟩; have HS2 : Hid (CuB false w1 u2 R l x t [] h) := HS.out.step hb2; have HGR : Hid (u2.ownsRow 0 2 1 (.slice ga gl.length gc) gl.length (ints gl)) := Joins.ownsRow_le hgr (Nat.zero_le _); clear hgr hb2)
        go_loopw [11] (fun i wr => ∃ j : Nat, j ≤ gl.length ∧ i = .int .i64 j ∧ Hid (CuB false w1 wr R l x t (gl.take j) h) ∧ Hid (wr.ownsRow 0 2 1 (.slice ga gl.length gc) gl.length (ints gl))) (fun i _ => gl.length - (intOf i).toNat)
        case atStart => exact ⟨0, Nat.zero_le _, rfl, HS2, HGR⟩
        case round =>
          obtain ⟨j, hj, rfl, HC, HG⟩ := hrel
          obtain ⟨h1, h2, ka, kc, ba, bc, va, vc, ha, hc, h3, h4⟩ := HC.out
          by_cases hlt : j < gl.length
          · obtain ⟨k, hk⟩ : ∃ k, k = gl.getD j 0 := ⟨_, rfl⟩
            rcases (IAt.owned HG.out rfl).2 with h00 | ⟨b0, o0, e0, l0, d0⟩
            · omega
            subst e0
            have x0 := d0 j hlt
            rw [← hk] at x0
            have HT : Hid (gl.take (j + 1) = gl.take j ++ [k]) := take_next rfl hlt hk
            obtain ⟨g0, hg0⟩ : ∃ g0, g0 = gl.take j := ⟨_, rfl⟩
            have hgl0 : g0.length = j := by rw [hg0, List.length_take]; omega
            rw [← hg0] at h3 h4 HT
            obtain ⟨p0, p1, p2, p3, p4, p5, p6⟩ := cells7V h3
            have hki : (j : Int) < (gl.length : Int) := by omega
            obtain ⟨g, cap, w5, hrun, HB5, HC5, HG5⟩ := CuB.voter2 (W := wr.drew) k h1 h2.drew h3 (h4.below (Below.refl _ _).drew) (by omega) (row_below HG.out (Below.refl _ _).drew)
            replace hrun : (Builtin.append_ #[28, 28] 28 #[.slice va g0.length vc, .slice (some ⟨wr.heap.size, 0, none⟩) 1 1]).run Try.prog (wr.alloc (.cells #[.int .i64 k, .int .i64 0, .slice none 0 0] 53)).drew = .ok (.slice (some ⟨g, 0, none⟩) (g0.length + 1) cap) w5 := hrun
            have tb : (wr.alloc (.cells #[.int .i64 k, .int .i64 0, .slice none 0 0] 53)).drew.cell? ⟨R, 4, none⟩ = some (.slice va g0.length vc) := cell_newV p4
            obtain ⟨l00, l1, l2, l3, l4, l5, l6⟩ := cells7V HB5.out
            have gz := Joins.unfrozen_of_block HB5.out 4
            clear h3 h4 h2 HC p0 p1 p2 p3 p5 p6 d0 hk hgl0 hg0 l00 l1 l2 l3 l5 l6
            go_wp2
            go_region_law (first
              | (refine step_append_runZ (by rfl) (.tmp 54) (.tmp 60) 28 (by rfl) (v := .slice va g0.length vc) (u := .slice (some ⟨wr.heap.size, 0, none⟩) 1 1) (v' := .slice (some ⟨g, 0, none⟩) (g0.length + 1) cap) (w' := w5) (by rfl) (by rfl) ?_ ?_; (with_reducible exact hrun)))
            all_goals
              go_wp2
              go_roundw
              case rel => exact ⟨j + 1, by omega, by go_num, by rw [HT.out]; exact HC5, HG5⟩
              case measure => simp [intOf]; omega
          · have HTF : Hid (gl.take j = gl) := List.take_of_length_le (by omega)
            rw [HTF.out] at h3 h4
            obtain ⟨p0, p1, p2, p3, p4, p5, p6⟩ := cells7V h3
            have HR0 := (h2.block _ (lt_of_block HX1.out)).trans HX1.out
            obtain ⟨y0, y1, y2, y3, y4, y5, y6, y7⟩ := cells8V HR0
            have f0 := Joins.unfrozen_of_block HR0 0
            have f1 := Joins.unfrozen_of_block HR0 1
            have f2 := Joins.unfrozen_of_block HR0 2
            have f3 := Joins.unfrozen_of_block HR0 3
            have f4 := Joins.unfrozen_of_block HR0 4
            have f5 := Joins.unfrozen_of_block HR0 5
            have f6 := Joins.unfrozen_of_block HR0 6
            have f7 := Joins.unfrozen_of_block HR0 7
            have hki : ¬ (j : Int) < (gl.length : Int) := by omega
            have HR1 : Hid (wr.heap[w.heap.size + 1]? = some (.cells #[.int .i64 0, .slice none 0 0, .int .i64 0, .slice none 0 0, .slice none 0 0, .slice none 0 0, .slice none 0 0, .slice none 0 0] 34 (0, 0))) := HR0
            have H4 : Hid (ClR false w1.heap.size wr l t gl h ka kc ba bc va vc ha hc) := h4
            have H2 : Hid (Below w1.heap.size w1 wr) := h2
            clear HR0 h3 h4 h2 HC
            go_wp2
            obtain ⟨s0, s1, s2, s3, s4, s5, s6, s7⟩ := cells8V (set8V8 HR1.out (.int .i64 0) (.slice ka l.length kc) (.int .i64 x) (.slice ba t.length bc) (.slice none 0 0) (.slice va gl.length vc) (.slice none 0 0) (.slice ha h hc))
            have hww := HB1.out.size
            refine bodyPost_ret (v := .agg #[.int .i64 0, .slice ka l.length kc, .int .i64 x, .slice ba t.length bc, .slice none 0 0, .slice va gl.length vc, .slice none 0 0, .slice ha h hc]) (by simp [results, Try.results5, go_sem, s0, s1, s2, s3, s4, s5, s6, s7]) rfl ⟨ka, kc, ba, bc, va, vc, ha, hc, rfl, ?_, ?_⟩
            · exact (H4.out.set8 HR1.out neR1 neR2 neR3 _ _ _ _ _ _ _ _).low hww
            · exact below_set8V (HB1.out.trans (H2.out.mono HB1.out.size)) (by omega) _ _ _ _ _ _ _ _
    · rw [hbad hb0]
      have hc0 : (c == 0) = false := by simpa using hb0
      clear hbad HC
      go_enter Try.func5, Try.ntmps5
      go_wp2_with (first
        | (go_at_call 17; (with_reducible refine hF.mono ?_); clear hF; rintro e v1 ⟨rfl, hb1⟩; rw [← HW0.out] at hb1; have HBV : Hid (Below w.heap.size w v1) := HBL.out.trans (hb1.mono HBL.out.size); have HXV := keepb HXR.out hb1; have HXQ := keepb HXB.out hb1; have hBd := HBd.out v1 HBV.out; clear hb1)
        | (go_at_call 19; (with_reducible refine (hW _).mono ?_); rintro e w' ⟨rfl, hw⟩; have hw2 := hw.symm; subst hw2)
        | (go_at_call 20; (with_reducible refine hBd.mono ?_); clear hBd; rintro e w1 ⟨rfl, hb2⟩; have HB1 : Hid (Below w.heap.size w w1) := HBV.out.trans (hb2.mono HBV.out.size); have HX1 := keepb HXV.out hb2; have HQ1 := keepb HXQ.out hb2; clear hb2; have HBV : Hid (Below w.heap.size w w1) := HB1; have HXV := HX1)
        | (go_at_call 18; (with_reducible refine (l12Err_any c _).mono ?_); rintro e we ⟨rfl, hbe⟩; have HBE : Hid (Below w.heap.size w we) := HBV.out.trans (hbe.mono HBV.out.size); have HXE := keepb HXV.out hbe; obtain ⟨y0, y1, y2, y3, y4, y5, y6, y7⟩ := cells8V HXE.out; have f0 := Joins.unfrozen_of_block HXE.out 0; have f1 := Joins.unfrozen_of_block HXE.out 1; have f2 := Joins.unfrozen_of_block HXE.out 2; have f3 := Joins.unfrozen_of_block HXE.out 3; have f4 := Joins.unfrozen_of_block HXE.out 4; have f5 := Joins.unfrozen_of_block HXE.out 5; have f6 := Joins.unfrozen_of_block HXE.out 6; have f7 := Joins.unfrozen_of_block HXE.out 7; clear hbe))
      obtain ⟨s0, s1, s2, s3, s4, s5, s6, s7⟩ := cells8V (set8V8 HXE.out (.int .i64 c) (.slice none 0 0) (.int .i64 0) (.slice none 0 0) (.slice none 0 0) (.slice none 0 0) (.slice none 0 0) (.slice none 0 0))
      refine bodyPost_ret (v := .agg #[.int .i64 c, .slice none 0 0, .int .i64 0, .slice none 0 0, .slice none 0 0, .slice none 0 0, .slice none 0 0, .slice none 0 0]) (by simp [results, Try.results5, go_sem, s0, s1, s2, s3, s4, s5, s6, s7]) rfl ⟨none, 0, none, 0, none, 0, none, 0, rfl, ClR.nil _ _ _, ?_⟩
      exact below_set8V HBE.out (by omega) _ _ _ _ _ _ _ _
  · rw [if_pos h0] at hcc
    subst hcc
    rw [hbad h0]
    have hq0 : (c == 0) = false := by simpa using h0
    clear hbad HC
    go_enter Try.func5, Try.ntmps5
    go_wp2_with (first
      | (go_at_call 17; (with_reducible refine hF.mono ?_); clear hF; rintro e v1 ⟨rfl, hb1⟩; rw [← HW0.out] at hb1; have HBV : Hid (Below w.heap.size w v1) := HBL.out.trans (hb1.mono HBL.out.size); have HXV := keepb HXR.out hb1; have HXQ := keepb HXB.out hb1; have hBd := HBd.out v1 HBV.out; clear hb1)
      | (go_at_call 18; (with_reducible refine (l12Err_any c _).mono ?_); rintro e we ⟨rfl, hbe⟩; have HBE : Hid (Below w.heap.size w we) := HBV.out.trans (hbe.mono HBV.out.size); have HXE := keepb HXV.out hbe; obtain ⟨y0, y1, y2, y3, y4, y5, y6, y7⟩ := cells8V HXE.out; have f0 := Joins.unfrozen_of_block HXE.out 0; have f1 := Joins.unfrozen_of_block HXE.out 1; have f2 := Joins.unfrozen_of_block HXE.out 2; have f3 := Joins.unfrozen_of_block HXE.out 3; have f4 := Joins.unfrozen_of_block HXE.out 4; have f5 := Joins.unfrozen_of_block HXE.out 5; have f6 := Joins.unfrozen_of_block HXE.out 6; have f7 := Joins.unfrozen_of_block HXE.out 7; clear hbe))
    obtain ⟨s0, s1, s2, s3, s4, s5, s6, s7⟩ := cells8V (set8V8 HXE.out (.int .i64 c) (.slice none 0 0) (.int .i64 0) (.slice none 0 0) (.slice none 0 0) (.slice none 0 0) (.slice none 0 0) (.slice none 0 0))
    refine bodyPost_ret (v := .agg #[.int .i64 c, .slice none 0 0, .int .i64 0, .slice none 0 0, .slice none 0 0, .slice none 0 0, .slice none 0 0, .slice none 0 0]) (by simp [results, Try.results5, go_sem, s0, s1, s2, s3, s4, s5, s6, s7]) rfl ⟨none, 0, none, 0, none, 0, none, 0, rfl, ClR.nil _ _ _, ?_⟩
    exact below_set8V HBE.out (by omega) _ _ _ _ _ _ _ _

end Go.Proofs.Ytmnahhojfcigmaa
