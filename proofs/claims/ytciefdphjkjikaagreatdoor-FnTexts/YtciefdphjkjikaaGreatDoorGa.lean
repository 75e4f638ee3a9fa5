/- A text cut at a byte: what it comes to, and the specification's. -/
import Derived.Test.YtciefdphjkjikaaGreatDoorJn3
import Derived.Test.YtciefdphjkjikaaGreatDoorJn4
namespace Go.Proofs.YtciefdphjkjikaaGreatDoor
open Go.RowKit Go.Shelf Go.Maps Go.WideMaps

def cutL (c : UInt8) : List UInt8 → List (List UInt8)
  | [] => [[]]
  | b :: t => if b = c then [] :: cutL c t else (match cutL c t with | [] => [[b]] | x :: r => (b :: x) :: r)
theorem cutL_ne (c : UInt8) (t : List UInt8) : cutL c t ≠ [] := by
  cases t with
  | nil => simp [cutL]
  | cons b t =>
    unfold cutL
    by_cases h : b = c
    · rw [if_pos h]; simp
    · rw [if_neg h]; cases cutL c t <;> simp
theorem cutL_one {c : UInt8} {t : List UInt8} (h : c ∉ t) : cutL c t = [t] := by
  induction t with
  | nil => rfl
  | cons b t ih =>
    have h1 : ¬ b = c := fun e => h (by rw [e]; exact List.mem_cons_self ..)
    rw [cutL, if_neg h1, ih (fun e => h (List.mem_cons_of_mem _ e))]
theorem cutL_at {c : UInt8} {s r : List UInt8} (h : c ∉ s) : cutL c (s ++ c :: r) = s :: cutL c r := by
  induction s with
  | nil => simp [cutL]
  | cons b t ih =>
    have h1 : ¬ b = c := fun e => h (by rw [e]; exact List.mem_cons_self ..)
    rw [List.cons_append, cutL, if_neg h1, ih (fun e => h (List.mem_cons_of_mem _ e))]
theorem cutL_len (c : UInt8) (t : List UInt8) : (cutL c t).length ≤ t.length + 1 := by
  induction t with
  | nil => simp [cutL]
  | cons b t ih =>
    unfold cutL
    by_cases h : b = c
    · rw [if_pos h]; simp; omega
    · rw [if_neg h]
      cases e : cutL c t with
      | nil => exact absurd e (cutL_ne c t)
      | cons x r => rw [e] at ih; simp at ih ⊢; omega
theorem cutL_sub (c : UInt8) (t : List UInt8) : ∀ x ∈ cutL c t, x.length ≤ t.length := by
  induction t with
  | nil => intro x hx; simp [cutL] at hx; simp [hx]
  | cons b t ih =>
    intro x hx
    unfold cutL at hx
    by_cases h : b = c
    · rw [if_pos h] at hx
      rcases List.mem_cons.1 hx with rfl | hx
      · simp
      · have := ih x hx; simp; omega
    · rw [if_neg h] at hx
      cases e : cutL c t with
      | nil => exact absurd e (cutL_ne c t)
      | cons y r =>
        rw [e] at hx
        rcases List.mem_cons.1 hx with rfl | hx
        · have := ih y (by rw [e]; exact List.mem_cons_self ..); simp; omega
        · have := ih x (by rw [e]; exact List.mem_cons_of_mem _ hx); simp; omega

/-- So far: the pieces ahead of f are told, and there is no cut from f to k. -/
def CutI (c : UInt8) (t : List UInt8) (ps : List (List UInt8)) (f k : Nat) : Prop :=
  (k ≤ t.length ∧ f ≤ k ∧ cutL c t = ps ++ cutL c (t.drop f) ∧ c ∉ (t.drop f).take (k - f)) ∨ (k = t.length + 1 ∧ cutL c t = ps)
theorem CutI.hit {c : UInt8} {t : List UInt8} {ps : List (List UInt8)} {f k : Nat} (h : CutI c t ps f k) (hk : k < t.length) (hc : t.getD k 0 = c) : CutI c t (ps ++ [(t.drop f).take (k - f)]) (k + 1) (k + 1) := by
  rcases h with ⟨h1, h2, h3, h4⟩ | ⟨h1, _⟩
  · have e : t.drop f = (t.drop f).take (k - f) ++ c :: t.drop (k + 1) := by
      have e1 : t.drop k = c :: t.drop (k + 1) := by
        rw [List.drop_eq_getElem_cons hk]
        have : t[k] = c := by rw [← hc]; simp [List.getD, hk]
        rw [this]
      rw [← e1, show t.drop k = (t.drop f).drop (k - f) by rw [List.drop_drop]; congr 1; omega, List.take_append_drop]
    refine .inl ⟨by omega, Nat.le_refl _, ?_, by simp⟩
    rw [h3]
    conv => lhs; rw [e, cutL_at h4]
    simp
  · omega
theorem CutI.miss {c : UInt8} {t : List UInt8} {ps : List (List UInt8)} {f k : Nat} (h : CutI c t ps f k) (hk : k < t.length) (hc : ¬ t.getD k 0 = c) : CutI c t ps f (k + 1) := by
  rcases h with ⟨h1, h2, h3, h4⟩ | ⟨h1, _⟩
  · refine .inl ⟨by omega, by omega, h3, ?_⟩
    rw [show k + 1 - f = (k - f) + 1 by omega, List.take_add_one]
    intro hm
    rcases List.mem_append.1 hm with hm | hm
    · exact h4 hm
    · have e : (t.drop f)[k - f]? = some (t.getD k 0) := by
        rw [List.getElem?_drop, show f + (k - f) = k by omega]
        simp [List.getD, hk]
      rw [e] at hm
      simp at hm
      exact hc hm.symm
  · omega
theorem CutI.last {c : UInt8} {t : List UInt8} {ps : List (List UInt8)} {f k : Nat} (h : CutI c t ps f k) (hk : k = t.length) : CutI c t (ps ++ [(t.drop f).take (k - f)]) (k + 1) (k + 1) := by
  rcases h with ⟨h1, h2, h3, h4⟩ | ⟨h1, _⟩
  · have e : (t.drop f).take (k - f) = t.drop f := List.take_of_length_le (by rw [List.length_drop]; omega)
    rw [e] at h4 ⊢
    exact .inr ⟨by omega, by rw [h3, cutL_one h4]⟩
  · omega
theorem CutI.done {c : UInt8} {t : List UInt8} {ps : List (List UInt8)} {f k : Nat} (h : CutI c t ps f k) (hk : ¬ k ≤ t.length) : cutL c t = ps := by
  rcases h with ⟨h1, _⟩ | ⟨_, h2⟩
  · exact absurd h1 hk
  · exact h2

theorem str_cut (t : List UInt8) (f k : Nat) : (str t).extract f k = str ((t.drop f).take (k - f)) := by
  apply ByteArray.ext
  simp [str]

/-- A text more: what the append leaves. -/
theorem text_added {W : World} {lo j : Nat} {v : Value} {ps : List (List UInt8)} {s : ByteArray} (h : W.ownsRow lo 9 1 v j (texts ps)) (hj : j ≤ 4000000) (hlo : lo ≤ W.heap.size) :
    ∃ g cap w5, (Builtin.append_ #[55, 55] 55 #[v, .slice (some ⟨W.heap.size, 0, none⟩) 1 1]).run Tryz.prog (W.alloc (.cells #[.string s] 9)) = .ok (.slice (some ⟨g, 0, none⟩) (j + 1) cap) w5 ∧
      Hid (w5.ownsRow lo 9 1 (.slice (some ⟨g, 0, none⟩) (j + 1) cap) (j + 1) (texts ps ++ [.string s]) ∧ Below lo W w5) := by
  obtain ⟨i0, hi, hz0, hz1, hz2⟩ := info_parts Tryz.infoStr
  obtain ⟨v', w5, hrun, hown', hgrow, hsome⟩ := run_append_own (P := Tryz.prog) (W.alloc (.cells #[.string s] 9)) lo 55 55 9 i0 (.string ByteArray.empty) 1 16 Tryz.underlying55 hi hz0 hz1 hz2 rfl (by decide) v j (texts ps) (h.alloc _) ⟨W.heap.size, 0, none⟩ 1 1 [.string s] rfl (World.news_of_block (heap_alloc_new _ _)) (by
    intro z hz
    simp only [List.mem_cons, List.not_mem_nil, or_false] at hz
    rw [hz]; rfl) (by unfold maxLen; omega) (by omega) (by simp; omega)
  obtain ⟨g, cap, rfl⟩ := ownsRow_succ hown'
  exact ⟨g, cap, w5, hrun, hown', ((below_box _).mono hlo).grown hgrow (by simp; omega) (fun k hk => (h.lt k hk).1)⟩

set_option maxRecDepth 20000 in
set_option maxHeartbeats 2000000 in
theorem l2Cut_any (t : List UInt8) (c : UInt8) (w : World) (ht : t.length ≤ 1048576) :
    Calls Tryz.prog 50 #[.string (str t), .int .u8 (c.toNat : Int)] w fun e w' => ∃ va vc, e = .returned (.slice va (cutL c t).length vc) ∧ w'.ownsRow w.heap.size 9 1 (.slice va (cutL c t).length vc) (cutL c t).length (texts (cutL c t)) ∧ Below w.heap.size w w' := by
  have hss : (str t).size = t.length := rfl
  have hex : ∀ f k : Nat, (str t).extract f k = str ((t.drop f).take (k - f)) := str_cut t
  obtain ⟨i0, hi, hz0, hz1, hz2⟩ := info_parts Tryz.infoStr
  go_enter Tryz.func50, Tryz.ntmps50
  go_wp2
  go_loopw [5, 6, 7] (fun v fr i wr => ∃ k f : Nat, k ≤ t.length + 1 ∧ f ≤ k ∧ i = .int .i64 k ∧ fr = .int .i64 f ∧ Below w.heap.size w wr ∧ ∃ g vc, ∃ ps : List (List UInt8), v = .slice (some ⟨g, 0, none⟩) ps.length vc ∧ ps.length ≤ k ∧ Hid (wr.ownsRow w.heap.size 9 1 (.slice (some ⟨g, 0, none⟩) ps.length vc) ps.length (texts ps)) ∧ Hid (CutI c t ps f k)) (fun _ _ i _ => t.length + 1 - (intOf i).toNat)
  case atStart => exact ⟨0, 0, by omega, Nat.le_refl _, rfl, rfl, below_box _, w.heap.size, 0, [], rfl, Nat.le_refl _, ⟨rfl, .inr ⟨w.heap.size, 0, #[], rfl, Nat.le_refl _, heap_alloc_new _ _, Nat.le_refl _, by unfold maxLen; omega, rfl, rfl⟩⟩, .inl ⟨by omega, Nat.le_refl _, by simp, by simp⟩⟩
  case round =>
    obtain ⟨k, f, hk, hf, rfl, rfl, hbel, g, vc, ps, rfl, hpk, HO, HC⟩ := hrel
    by_cases hlt : k ≤ t.length
    · have hle : (k : Int) ≤ (t.length : Int) := by omega
      have hfi : (f : Int) ≤ (k : Int) := by omega
      have hf0 : (0 : Int) ≤ (f : Int) := by omega
      have hk0 : (0 : Int) ≤ (k : Int) := by omega
      obtain ⟨pc, hpc⟩ : ∃ q, q = (t.drop f).take (k - f) := ⟨_, rfl⟩
      have hxk : (str t).extract f k = str pc := by rw [hex, hpc]
      have HPC : Hid (pc = (t.drop f).take (k - f)) := hpc
      have hsz := hbel.size
      obtain ⟨g5, cap, w5, hrun, HC5⟩ := text_added (s := str pc) HO.out (by omega) hsz
      by_cases he : k = t.length
      · have hee : ((k : Int) == (t.length : Int)) = true := by simp [he]
        have HN : Hid (CutI c t (ps ++ [pc]) (k + 1) (k + 1)) := by rw [HPC.out]; exact HC.out.last he
        clear he hpc hex
        go_wp2_with (first | (at_builtin; go_must (refine wpList_append_runC (by rfl) _ _ _ (by rfl) (by rfl) (by rfl) hrun ?_); clear hrun))
        go_roundw
        case rel => exact ⟨k + 1, k + 1, by omega, by omega, by go_num, by go_num, hbel.trans (HC5.out.2.mono (Nat.le_refl _)), g5, cap, ps ++ [pc], by simp, by simp; omega, by rw [List.length_append, texts_more]; exact HC5.out.1, HN.out⟩
        case measure => simp [intOf]; omega
      · have hki : (k : Int) < (t.length : Int) := by omega
        have hee : ((k : Int) == (t.length : Int)) = false := by simp; omega
        have hen : (k == t.length) = false := by simp; omega
        obtain ⟨x, hx⟩ : ∃ x, x = t.getD k 0 := ⟨_, rfl⟩
        have hix : ∀ hh, (str t)[k]'hh = x := fun hh => by
          rw [hx]
          have : k < t.length := by omega
          simp [List.getD, this, str, ByteArray.getElem_eq_getElem_data]
        have HX : Hid (t.getD k 0 = x) := hx.symm
        by_cases hc : x = c
        · have hcc : ((x.toNat : Int) == (c.toNat : Int)) = true := by simp [hc]
          have HN : Hid (CutI c t (ps ++ [pc]) (k + 1) (k + 1)) := by rw [HPC.out]; exact HC.out.hit (by omega) (by rw [HX.out]; exact hc)
          clear he hpc hex hx hc
          go_wp2_with (first | (at_builtin; go_must (refine wpList_append_runC (by rfl) _ _ _ (by rfl) (by rfl) (by rfl) hrun ?_); clear hrun))
          go_roundw
          case rel => exact ⟨k + 1, k + 1, by omega, by omega, by go_num, by go_num, hbel.trans (HC5.out.2.mono (Nat.le_refl _)), g5, cap, ps ++ [pc], by simp, by simp; omega, by rw [List.length_append, texts_more]; exact HC5.out.1, HN.out⟩
          case measure => simp [intOf]; omega
        · have hcc : ((x.toNat : Int) == (c.toNat : Int)) = false := by
            simp
            intro e
            exact hc (UInt8.toNat_inj.1 (by omega))
          have HN : Hid (CutI c t ps f (k + 1)) := HC.out.miss (by omega) (by rw [HX.out]; exact hc)
          clear he hpc hex hx hc hrun
          go_wp2
          go_roundw
          case rel => exact ⟨k + 1, f, by omega, by omega, by go_num, rfl, hbel, g, vc, ps, rfl, by omega, HO, HN⟩
          case measure => simp [intOf]; omega
    · have e1 := HC.out.done hlt
      clear hex
      go_wp2
      go_ret
      rw [e1]
      exact ⟨_, _, rfl, HO.out, hbel⟩

end Go.Proofs.YtciefdphjkjikaaGreatDoor
