/- Members that are right, and what taking a transaction leaves of them: the part that is about lists alone. -/
import Derived.Test.YtgfhnmjpkanikaaEl
import Derived.Test.YtgfhnmjpkanikaaEh
namespace Go.Proofs.Ytgfhnmjpkanikaa
open Go.RowKit Go.Maps Go.WideMaps

/-- A member's fields are in bounds. -/
def okM (m : Mb) : Prop := inB m.1 1 999 = true ∧ refB m.2 = true
theorem eachR_iff : ∀ {ms : List Mb} {l : Int}, eachR l ms = 0 ↔ (∀ m ∈ ms, okM m) ∧ (∀ m ∈ ms, l < m.1) ∧ ms.Pairwise (fun a b => a.1 < b.1)
  | [], l => by simp [eachR]
  | m :: t, l => by
    have ih := eachR_iff (ms := t) (l := m.1)
    by_cases h : inB m.1 1 999 = false ∨ refB m.2 = false
    · rw [each_bad h]
      constructor
      · intro e; cases e
      · rintro ⟨h1, _⟩
        obtain ⟨a, b⟩ := h1 m (by simp)
        rcases h with h | h
        · rw [a] at h; cases h
        · rw [b] at h; cases h
    · have hok : okM m := ⟨by cases e : inB m.1 1 999 <;> simp_all, by cases e : refB m.2 <;> simp_all⟩
      by_cases h1 : m.1 ≤ l
      · rw [each_form h h1]
        constructor
        · intro e; cases e
        · rintro ⟨_, h2, _⟩
          have := h2 m (by simp)
          omega
      · rw [each_go h h1, ih]
        constructor
        · rintro ⟨a, b, c⟩
          refine ⟨fun x hx => ?_, fun x hx => ?_, List.pairwise_cons.2 ⟨fun x hx => b x hx, c⟩⟩
          · rcases List.mem_cons.1 hx with rfl | hx
            · exact hok
            · exact a x hx
          · rcases List.mem_cons.1 hx with rfl | hx
            · omega
            · have := b x hx; omega
        · rintro ⟨a, _, c⟩
          have c' := List.pairwise_cons.1 c
          exact ⟨fun x hx => a x (List.mem_cons_of_mem _ hx), fun x hx => c'.1 x hx, c'.2⟩
theorem dupR_iff : ∀ {ms : List Mb} {seen : List (Int × Int)}, dupR seen ms = false ↔ (∀ m ∈ ms, m.2 ∉ seen) ∧ (ms.map Prod.snd).Nodup
  | [], seen => by simp [dupR]
  | m :: t, seen => by
    have ih := dupR_iff (ms := t) (seen := seen ++ [m.2])
    rw [dupR]
    by_cases h : memB seen m.2 = true
    · rw [if_pos h]
      constructor
      · intro e; cases e
      · rintro ⟨h1, _⟩
        exact absurd (memB_iff.1 h) (h1 m (by simp))
    · rw [if_neg h, ih]
      have hn : m.2 ∉ seen := fun e => h (memB_iff.2 e)
      simp only [List.map_cons, List.nodup_cons, List.mem_map, List.mem_append, List.mem_cons, List.not_mem_nil, or_false, not_or, forall_eq_or_imp]
      constructor
      · rintro ⟨a, b⟩
        exact ⟨⟨hn, fun x hx => (a x hx).1⟩, fun ⟨x, hx, e⟩ => (a x hx).2 e, b⟩
      · rintro ⟨⟨_, a⟩, b, c⟩
        exact ⟨fun x hx => ⟨a x hx, fun e => b ⟨x, hx, e⟩⟩, c⟩
/-- A list of members without a fault. -/
structure MOk (ms : List Mb) : Prop where
  few : ms.length ≤ 8
  ok : ∀ m ∈ ms, okM m
  up : ms.Pairwise (fun a b => a.1 < b.1)
  nd : (ms.map Prod.snd).Nodup
theorem memsR_iff {ms : List Mb} : memsR ms = 0 ↔ MOk ms := by
  unfold memsR
  by_cases h : 8 < ms.length
  · rw [if_pos h]
    exact ⟨fun e => (by cases e), fun h1 => (by have := h1.few; omega)⟩
  rw [if_neg h]
  by_cases h1 : eachR 0 ms ≠ 0
  · rw [if_pos h1]
    exact ⟨fun e => absurd e h1, fun h2 => absurd (eachR_iff.2 ⟨h2.ok, fun m hm => (by have := (h2.ok m hm).1; simp [inB] at this; omega), h2.up⟩) h1⟩
  rw [if_neg h1]
  have h2 := eachR_iff.1 (Decidable.not_not.1 h1)
  by_cases h3 : dupR [] ms = true
  · rw [if_pos h3]
    refine ⟨fun e => (by cases e), fun h4 => ?_⟩
    have := (dupR_iff (seen := [])).2 ⟨fun m _ => List.not_mem_nil, h4.nd⟩
    rw [h3] at this; cases this
  rw [if_neg h3]
  have h4 := dupR_iff.1 (Bool.eq_false_iff.2 h3)
  exact ⟨fun _ => ⟨by omega, h2.1, h2.2.2, h4.2⟩, fun _ => rfl⟩
theorem ins_mem {x y : Mb} : ∀ {ms : List Mb}, y ∈ insM ms x ↔ y ∈ ms ∨ y = x
  | [] => by simp [insM]
  | a :: l => by
    unfold insM
    by_cases e : a.1 < x.1
    · rw [if_pos e, List.mem_cons, ins_mem, List.mem_cons, or_assoc]
    · rw [if_neg e]; simp only [List.mem_cons]
      exact ⟨fun h => h.elim .inr (fun h => .inl h), fun h => h.elim .inr .inl⟩
theorem ins_up {x : Mb} : ∀ {ms : List Mb}, ms.Pairwise (fun a b => a.1 < b.1) → (∀ m ∈ ms, m.1 ≠ x.1) → (insM ms x).Pairwise (fun a b => a.1 < b.1)
  | [], _, _ => by simp [insM]
  | a :: l, h, hne => by
    obtain ⟨h1, h2⟩ := List.pairwise_cons.1 h
    unfold insM
    by_cases e : a.1 < x.1
    · rw [if_pos e]
      refine List.pairwise_cons.2 ⟨fun y hy => ?_, ins_up h2 fun m hm => hne m (List.mem_cons_of_mem _ hm)⟩
      rcases ins_mem.1 hy with hy | rfl
      · exact h1 y hy
      · exact e
    · rw [if_neg e]
      have := hne a (by simp)
      refine List.pairwise_cons.2 ⟨fun y hy => ?_, h⟩
      rcases List.mem_cons.1 hy with rfl | hy
      · omega
      · have := h1 y hy; omega
theorem ins_nd {x : Mb} : ∀ {ms : List Mb}, (ms.map Prod.snd).Nodup → (∀ m ∈ ms, m.2 ≠ x.2) → ((insM ms x).map Prod.snd).Nodup
  | [], _, _ => by simp [insM]
  | a :: l, h, hne => by
    simp only [List.map_cons, List.nodup_cons, List.mem_map] at h
    unfold insM
    by_cases e : a.1 < x.1
    · rw [if_pos e]
      simp only [List.map_cons, List.nodup_cons, List.mem_map]
      refine ⟨fun ⟨y, hy, e2⟩ => ?_, ins_nd h.2 fun m hm => hne m (List.mem_cons_of_mem _ hm)⟩
      rcases ins_mem.1 hy with hy | rfl
      · exact h.1 ⟨y, hy, e2⟩
      · exact hne a (by simp) e2.symm
    · rw [if_neg e]
      simp only [List.map_cons, List.nodup_cons, List.mem_map, List.mem_cons, not_or]
      exact ⟨⟨fun e2 => hne a (by simp) e2.symm, fun ⟨y, hy, e2⟩ => hne y (List.mem_cons_of_mem _ hy) e2⟩, fun ⟨y, hy, e2⟩ => h.1 ⟨y, hy, e2⟩, h.2⟩
/-- Who joins: the others stay, in order. -/
theorem join_parts {ms : List Mb} {x : Mb} (h : (joinMR ms x).1 = 0) : (joinMR ms x).2 = insM ms x ∧ (∀ m ∈ ms, m.1 ≠ x.1) ∧ (∀ m ∈ ms, m.2 ≠ x.2) ∧ ms.length < 8 := by
  unfold joinMR at h ⊢
  by_cases h1 : (ms.any fun m => decide (m.1 = x.1)) = true ∨ (ms.any fun m => decide (m.2 = x.2)) = true
  · rw [if_pos h1] at h; cases h
  rw [if_neg h1] at h ⊢
  by_cases h2 : 8 ≤ ms.length
  · rw [if_pos h2] at h; cases h
  rw [if_neg h2]
  refine ⟨rfl, fun m hm e => h1 (.inl (List.any_eq_true.2 ⟨m, hm, by simpa using e⟩)), fun m hm e => h1 (.inr (List.any_eq_true.2 ⟨m, hm, by simpa using e⟩)), by omega⟩
theorem ins_length {x : Mb} (ms : List Mb) : (insM ms x).length = ms.length + 1 := by
  induction ms with
  | nil => rfl
  | cons a l ih =>
    unfold insM
    by_cases e : a.1 < x.1
    · rw [if_pos e, List.length_cons, ih, List.length_cons]
    · rw [if_neg e]; rfl
theorem MOk.filt {ms : List Mb} (h : MOk ms) (p : Mb → Bool) : MOk (ms.filter p) :=
  ⟨Nat.le_trans (List.length_filter_le _ _) h.few, fun m hm => h.ok m (List.mem_filter.1 hm).1, h.up.filter p, h.nd.sublist (List.Sublist.map _ List.filter_sublist)⟩
/-- What taking a transaction leaves. -/
theorem take_parts {ms : List Mb} {kd f id : Int} {rs : List (Int × Int)} (hm : MOk ms) (hid : inB id 1 60 = true) (hf : kd ≠ 0 → inB f 1 999 = true) (h : (takeMR ms kd f rs id).1 = 0) :
    MOk (takeMR ms kd f rs id).2 ∧ (∀ m ∈ (takeMR ms kd f rs id).2, m.1 ≠ f → m ∈ ms ∧ m.2 ∉ rs) ∧ (kd = 1 → (f, id, 0) ∈ (takeMR ms kd f rs id).2) ∧ (kd = 2 → ∀ m ∈ (takeMR ms kd f rs id).2, m.1 ≠ f) := by
  have hfm : ∀ m ∈ ms.filter (keepM kd f rs), m ∈ ms ∧ m.2 ∉ rs ∧ (kd = 2 → m.1 ≠ f) := fun m hx => by
    obtain ⟨a, b⟩ := List.mem_filter.1 hx
    unfold keepM at b
    simp only [Bool.and_eq_true, Bool.not_eq_true', Bool.and_eq_false_iff, decide_eq_false_iff_not] at b
    exact ⟨a, fun e => (by have := memB_iff.2 e; rw [b.2] at this; cases this), fun e e2 => b.1.elim (fun q => q e) (fun q => q e2)⟩
  have hF := hm.filt (keepM kd f rs)
  unfold takeMR at h ⊢
  by_cases h1 : kd = 2 ∧ (ms.any fun m => decide (m.1 = f)) = false
  · rw [if_pos h1] at h; cases h
  rw [if_neg h1] at h ⊢
  by_cases h2 : kd = 1
  · rw [if_pos h2] at h ⊢
    obtain ⟨e, k1, k2, k3⟩ := join_parts h
    rw [e]
    refine ⟨⟨?_, fun m hx => ?_, ins_up hF.up k1, ins_nd hF.nd k2⟩, fun m hx hne => ?_, fun _ => ins_mem.2 (.inr rfl), fun e2 => by omega⟩
    · rw [ins_length]; omega
    · rcases ins_mem.1 hx with hx | rfl
      · exact hF.ok m hx
      · exact ⟨hf (by omega), by simp only [refB, hid]; decide⟩
    · rcases ins_mem.1 hx with hx | rfl
      · exact ⟨(hfm m hx).1, (hfm m hx).2.1⟩
      · exact absurd rfl hne
  · rw [if_neg h2]
    exact ⟨hF, fun m hx _ => ⟨(hfm m hx).1, (hfm m hx).2.1⟩, fun e => absurd e h2, fun e m hx => (hfm m hx).2.2 e⟩
theorem find_up {ms : List Mb} {m : Mb} (h : ms.Pairwise (fun a b => a.1 < b.1)) (hm : m ∈ ms) : ms.find? (fun x => decide (x.1 = m.1)) = some m := by
  induction ms with
  | nil => cases hm
  | cons a l ih =>
    obtain ⟨h1, h2⟩ := List.pairwise_cons.1 h
    rcases List.mem_cons.1 hm with rfl | hm
    · simp
    · have := h1 m hm
      rw [List.find?_cons_of_neg (by simpa using (by omega : a.1 ≠ m.1))]
      exact ih h2 hm
theorem member_in {ms : List Mb} {m : Mb} (h : MOk ms) (hm : m ∈ ms) : memberR ms m.1 = (0, [m]) := by
  unfold memberR
  rw [if_neg (by rw [memsR_iff.2 h]; simp), find_up h.up hm]
theorem member_out {ms : List Mb} {key : Int} (h : MOk ms) (hm : ∀ m ∈ ms, m.1 ≠ key) : memberR ms key = (4, []) := by
  unfold memberR
  rw [if_neg (by rw [memsR_iff.2 h]; simp), List.find?_eq_none.2 fun m hx => by simpa using hm m hx]
theorem keys_of {ms : List Mb} (h : MOk ms) : keysR ms = (0, ms.map (·.1)) := by
  unfold keysR
  rw [if_neg (by rw [memsR_iff.2 h]; simp)]
/-- Taking a transaction told whole. -/
theorem tm_parts {ms : List Mb} {kd f id : Int} {rs : List (Int × Int)} {os : List Ou} (h : (tmR ms kd f rs os id).1 = 0) :
    MOk ms ∧ MOk (tmR ms kd f rs os id).2 ∧ (∀ m ∈ (tmR ms kd f rs os id).2, m.1 ≠ f → m ∈ ms ∧ m.2 ∉ rs) ∧ (kd = 1 → (f, id, 0) ∈ (tmR ms kd f rs os id).2) ∧ (kd = 2 → ∀ m ∈ (tmR ms kd f rs os id).2, m.1 ≠ f) := by
  unfold tmR at h ⊢
  by_cases h1 : memsR ms ≠ 0
  · rw [if_pos h1] at h; exact absurd h h1
  rw [if_neg h1] at h ⊢
  by_cases h2 : txR kd f rs os ≠ 0
  · rw [if_pos h2] at h; exact absurd h h2
  rw [if_neg h2] at h ⊢
  by_cases h3 : inB id 1 60 = false
  · rw [if_pos h3] at h; cases h
  rw [if_neg h3] at h ⊢
  have hm := memsR_iff.1 (Decidable.not_not.1 h1)
  refine ⟨hm, take_parts hm (by simpa using h3) (fun hk => ?_) h⟩
  have h4 := Decidable.not_not.1 h2
  unfold txR at h4
  by_cases q1 : inB kd 0 2 = false ∨ ¬ (kd = 0 ↔ f = 0)
  · rw [if_pos q1] at h4; cases h4
  rw [if_neg q1] at h4
  by_cases q2 : kd ≠ 0 ∧ inB f 1 999 = false
  · rw [if_pos q2] at h4; cases h4
  cases e : inB f 1 999 with
  | true => rfl
  | false => exact absurd ⟨hk, e⟩ q2

end Go.Proofs.Ytgfhnmjpkanikaa
