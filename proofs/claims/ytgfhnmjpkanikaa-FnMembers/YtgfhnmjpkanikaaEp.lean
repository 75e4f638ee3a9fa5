/- The program's bench: who leaves, and who loses. -/
import Derived.Test.YtgfhnmjpkanikaaEo
namespace Go.Proofs.Ytgfhnmjpkanikaa
open Go.RowKit Go.Maps Go.WideMaps

/-- What is left of a bench, its row the same block's. -/
def LeftO (w w' : World) (e : Ending) (lo : Nat) (va : Option Addr) (vc : Nat) (rs : List Mb) : Prop :=
  e = .returned (.slice va rs.length vc) ∧ w'.ownsRow lo 68 3 (.slice va rs.length vc) rs.length (mcells rs) ∧ w.grownBy w' (Value.ownBlock (.slice va rs.length vc))
theorem row_someE {w : World} {lo n vc : Nat} {va : Option Addr} {xs : List Value} {t : TypeId} (h : w.ownsRow lo t 3 (.slice va n vc) n xs) : (va = none ∧ n = 0 ∧ vc = 0) ∨ ∃ g, va = some ⟨g, 0, none⟩ := by
  rcases h.2 with ⟨e, e0⟩ | ⟨g, cap, cur, e, _⟩
  · cases e; exact .inl ⟨rfl, rfl, rfl⟩
  · cases e; exact .inr ⟨g, rfl⟩
theorem grownBy_of {w w1 w2 : World} {g : Nat} (h : w.grownBy w1 none) (k : w1.grownBy w2 (some g)) : w.grownBy w2 (some g) :=
  ⟨k.os.trans h.os, k.tape.trans h.tape, k.output.trans h.output, Nat.le_trans h.size k.size, fun b hl hne => (k.block b (Nat.lt_of_lt_of_le hl h.size) hne).trans (h.block b hl (by simp))⟩

set_option maxRecDepth 20000 in
set_option maxHeartbeats 2000000 in
theorem lose_any (n vc lo n2 ic : Nat) (va ia : Option Addr) (ms : List Mb) (rs : List (Int × Int)) (w : World) (hn : n ≤ 500) (hn2 : n2 ≤ 1048576) (h : w.ownsRow lo 68 3 (.slice va n vc) n (mcells ms)) (hG : GAt w ia n2 rs) (hIg : ∀ b o g, ia = some ⟨b, o, none⟩ → va = some ⟨g, 0, none⟩ → b ≠ g) :
    Calls Try.prog 42 #[.slice va n vc, .slice ia n2 ic] w fun e w' => LeftO w w' e lo va vc (ms.filter fun m => !memB rs m.2) := by
  have hmf : ∀ (fn : Fn) (first cap : Array Value) (w : World), (Instr.makeFunc fn first cap).run Try.prog w = .ok (.func fn first cap) w := fun _ _ _ _ => rfl
  have hbx : Below w.heap.size w (w.alloc (.cells #[.slice ia n2 ic] 25)) := below_box _
  have hbk : (w.alloc (.cells #[.slice ia n2 ic] 25)).cell? ⟨w.heap.size, 0, none⟩ = some (.slice ia n2 ic) := by unfold World.cell?; rw [heap_alloc_new w (.cells #[.slice ia n2 ic] 25)]; rfl
  have hbl : w.heap.size < (w.alloc (.cells #[.slice ia n2 ic] 25)).heap.size := by simp
  have hrow : (w.alloc (.cells #[.slice ia n2 ic] 25)).ownsRow lo 68 3 (.slice va n vc) n (mcells ms) := h.alloc _
  have hG1 := hG.below hbx (Nat.le_refl _)
  rcases row_someE h with ⟨rfl, rfl, rfl⟩ | ⟨g, rfl⟩
  · have hms : ms = [] := List.length_eq_zero_iff.1 (by have := h.1; rw [mcells_length] at this; omega)
    subst hms
    have hI := idxLose_any 0 0 w.heap.size none [] n2 ic ia rs (w.alloc (.cells #[.slice ia n2 ic] 25)) (by omega) ⟨rfl, .inl rfl⟩ hn2 hG1 hbk hbl
    have HD : Hid (Calls Try.prog 59 #[.slice none 0 0, .func (.func 60) #[] #[.pointer (some ⟨w.heap.size, 0, none⟩)]] (w.alloc (.cells #[.slice ia n2 ic] 25)) fun e w' => e = .returned (.slice none 0 0) ∧ Below (w.alloc (.cells #[.slice ia n2 ic] 25)).heap.size (w.alloc (.cells #[.slice ia n2 ic] 25)) w') := by
      show Calls _ _ _ _ _
      clear h hrow hG hG1 hbk hbl hbx hIg
      go_enter Try.func59, Try.ntmps59
      go_wp2_with (fail)
      refine hI.mono ?_
      clear hI
      rintro e w2 ⟨i, rfl, hi, hb2⟩
      rcases hi with ⟨rfl, _⟩ | ⟨k, hk, _⟩
      · go_wp2
        go_ret
        exact ⟨rfl, hb2⟩
      · omega
    have HB : Hid (Below w.heap.size w (w.alloc (.cells #[.slice ia n2 ic] 25))) := hbx
    have hd := HD.out
    clear h hrow hG hG1 hbk hbl hI hbx hIg
    go_enter Try.func42, Try.ntmps42
    go_wp2_with (first | (go_at_call 59; (with_reducible refine hd.mono ?_); clear hd; rintro e w2 ⟨rfl, hb2⟩))
    go_ret
    exact ⟨rfl, ⟨rfl, .inl ⟨rfl, rfl⟩⟩, grown_of_below (HB.out.trans (hb2.mono HB.out.size))⟩
  · have hgl := (h.lt g rfl).2
    have hd := deleteF_any g n vc lo w.heap.size n2 ic ia ms rs (w.alloc (.cells #[.slice ia n2 ic] 25)) hn hn2 hrow hG1 hbk hbl (by omega) (fun b o e => hIg b o g e rfl)
    have HB : Hid (Below w.heap.size w (w.alloc (.cells #[.slice ia n2 ic] 25))) := hbx
    obtain ⟨fs, hfs⟩ : ∃ f, f = (ms.filter fun m => !memB rs m.2) := ⟨_, rfl⟩
    rw [← hfs] at hd ⊢
    clear h hrow hG hG1 hbk hbl hbx hIg hfs
    go_enter Try.func42, Try.ntmps42
    go_wp2_with (first | (go_at_call 59; (with_reducible refine hd.mono ?_); clear hd; rintro e w2 ⟨rfl, hO2, hg2⟩; have HO2 : Hid (w2.ownsRow lo 68 3 (.slice (some ⟨g, 0, none⟩) fs.length vc) fs.length (mcells fs)) := hO2; have HG2 : Hid ((w.alloc (.cells #[.slice ia n2 ic] 25)).grownBy w2 (some g)) := hg2; clear hO2 hg2))
    go_ret
    exact ⟨rfl, HO2.out, grownBy_of (grown_of_below HB.out) HG2.out⟩

/-- What leaving comes to. -/
def LeaveO (w w' : World) (e : Ending) (lo : Nat) (va : Option Addr) (n vc : Nat) (ms : List Mb) (key : Int) : Prop :=
  ((∀ t, t < n → (ms.getD t Z3).1 ≠ key) ∧ e = .returned (.tuple #[.slice none 0 0, .int .i64 4]) ∧ Below w.heap.size w w') ∨
  ∃ g i, va = some ⟨g, 0, none⟩ ∧ i < n ∧ (ms.getD i Z3).1 = key ∧ e = .returned (.tuple #[.slice va (ms.eraseIdx i).length vc, .int .i64 0]) ∧ w'.ownsRow lo 68 3 (.slice va (ms.eraseIdx i).length vc) (ms.eraseIdx i).length (mcells (ms.eraseIdx i)) ∧ w.grownBy w' (some g)
set_option maxRecDepth 20000 in
set_option maxHeartbeats 2000000 in
theorem leave_any (n vc lo : Nat) (va : Option Addr) (ms : List Mb) (key : Int) (w : World) (hn : n ≤ 500) (hlo : lo ≤ w.heap.size) (h : w.ownsRow lo 68 3 (.slice va n vc) n (mcells ms)) (hri : Rises ms) :
    Calls Try.prog 41 #[.slice va n vc, .int .i64 key] w fun e w' => LeaveO w w' e lo va n vc ms key := by
  have hl : ms.length = n := by have := h.1; rw [mcells_length] at this; omega
  have hP := placeOf_any n vc va ms key w (by omega) (mat_row h hl) hri
  have HH : Hid (w.ownsRow lo 68 3 (.slice va n vc) n (mcells ms)) := h
  have HN : Hid (ms.length = n) := hl
  clear h hri hl
  go_enter Try.func41, Try.ntmps41
  go_wp2_with (fail)
  refine hP.mono ?_
  clear hP
  rintro e w2 ⟨at', fo, rfl, HP, hb2⟩
  cases fo
  · have HFI : Hid (LeaveO w w2 (.returned (.tuple #[.slice none 0 0, .int .i64 4])) lo va n vc ms key) := .inl ⟨fun t ht => HP.out.miss rfl t (by rw [HN.out]; exact ht), rfl, hb2⟩
    go_wp2
    exact bodyPost_ret (v := .tuple #[.slice none 0 0, .int .i64 4]) (by simp [results, Try.results41, go_sem]) rfl HFI.out
  · obtain ⟨hat, hhit⟩ := HP.out.hit rfl
    rw [HN.out] at hat
    rcases row_someE HH.out with ⟨_, e0, _⟩ | ⟨g, rfl⟩
    · omega
    have hD := delete_any g n vc lo at' ms w2 hn hat (Nat.le_trans hlo hb2.size) (HH.out.kept (grown_of_below hb2) (by cases Value.ownBlock (.slice (some ⟨g, 0, none⟩) n vc) <;> simp))
    have hcast : ((at' + 1 : Nat) : Int) = (at' : Int) + 1 := by omega
    rw [hcast] at hD
    have HHI : Hid ((ms.getD at' Z3).1 = key) := hhit
    have HB2 : Hid (Below w.heap.size w w2) := hb2
    clear hhit hcast hb2
    go_wp2_with (first | (go_at_call 58; (with_reducible refine hD.mono ?_); clear hD; rintro e w3 ⟨rfl, hO3, hg3⟩; have HFI : Hid (LeaveO w w3 (.returned (.tuple #[.slice (some ⟨g, 0, none⟩) (ms.eraseIdx at').length vc, .int .i64 0])) lo (some ⟨g, 0, none⟩) n vc ms key) := .inr ⟨g, at', rfl, hat, HHI.out, rfl, hO3, grownBy_of (grown_of_below HB2.out) hg3⟩; clear hO3 hg3))
    exact bodyPost_ret (v := .tuple #[.slice (some ⟨g, 0, none⟩) (ms.eraseIdx at').length vc, .int .i64 0]) (by simp [results, Try.results41, go_sem]) rfl HFI.out

end Go.Proofs.Ytgfhnmjpkanikaa
