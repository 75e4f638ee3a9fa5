/- An iterator that turns a box of its own: the pieces of a text, told one by one. -/
import Derived.Test.YtlcdhhaikhieiaaDoorNest
import Derived.Test.YtlcdhhaikhieiaaDoorAe
import Derived.Test.YtlcdhhaikhieiaaDoorX3
import Derived.Test.YtlcdhhaikhieiaaDoorSh
namespace Go.Proofs.YtlcdhhaikhieiaaDoor
open Go.RowKit Go.Shelf Go.Maps Go.WideMaps
attribute [local go_sem] Oper.semAt_some

theorem grownBy_setCell (W : World) (a : Addr) (v : Value) : W.grownBy (W.setCell a v) (some a.block) :=
  ⟨rfl, rfl, rfl, by simp, fun k _ hk => Below.heap_setCell _ a v k (fun e => hk (by rw [e]))⟩
theorem mem_first {c : UInt8} : ∀ {r : List UInt8}, c ∈ r → ∃ a b, r = a ++ c :: b ∧ c ∉ a
  | [], h => by cases h
  | x :: t, h => by
    by_cases e : x = c
    · exact ⟨[], t, by rw [e]; rfl, by simp⟩
    · rcases List.mem_cons.1 h with h | h
      · exact absurd h.symm e
      · obtain ⟨a, b, h1, h2⟩ := mem_first h
        exact ⟨x :: a, b, by rw [h1]; rfl, fun q => by
          rcases List.mem_cons.1 q with q | q
          · exact e q.symm
          · exact h2 q⟩
/-- How much is left to be told. -/
def leftS (b : Nat) (W : World) : Nat := match W.cell? ⟨b, 0, none⟩ with
  | some (.string s) => s.size
  | _ => 0
/-- In the midst of the telling. -/
structure SpI (wr : World) (b0 b1 b2 : Nat) (c : UInt8) (t : List UInt8) (J : List (List UInt8) → World → Prop) (r : List UInt8) (pre : List (List UInt8)) : Prop where
  box : wr.heap[b0]? = some (.cells #[.string (str r)] 9 (0, 0))
  sep : wr.heap[b1]? = some (.cells #[.string ⟨#[c]⟩] 9 (0, 0))
  sav : wr.heap[b2]? = some (.cells #[.int .i64 0] 3 (0, 0))
  cut : cutL c t = pre ++ cutL c r
  inv : J pre wr
  few : pre.length + r.length ≤ t.length
theorem SpI.left {wr : World} {b0 b1 b2 : Nat} {c : UInt8} {t : List UInt8} {J : List (List UInt8) → World → Prop} {r : List UInt8} {pre : List (List UInt8)} (h : SpI wr b0 b1 b2 c t J r pre) : leftS b0 wr = r.length := by
  unfold leftS World.cell?
  rw [h.box]
  show (str r).size = r.length
  show r.toArray.size = _
  simp
theorem left_set {W : World} {b0 : Nat} {r : List UInt8} (b : List UInt8) (h : W.heap[b0]? = some (.cells #[.string (str r)] 9 (0, 0))) : leftS b0 (W.setCell ⟨b0, 0, none⟩ (.string (str b))) = b.length := by
  have h1 := Joins.block_setCell (i := 0) h (.string (str b))
  unfold leftS World.cell?
  rw [h1]
  show (str b).size = b.length
  show b.toArray.size = _
  simp
theorem size_str (r : List UInt8) : (str r).size = r.length := by show r.toArray.size = _; simp

theorem splitSeq_any (s p : ByteArray) (w : World) :
    Calls Tryd.prog 49 #[.string s, .string p, .int .i64 0] w fun e w' => e = .returned (.func (.func 65) #[] #[.pointer (some ⟨w.heap.size + 1, 0, none⟩), .pointer (some ⟨w.heap.size, 0, none⟩), .pointer (some ⟨w.heap.size + 1 + 1, 0, none⟩)]) ∧ w' = (((w.alloc (.cells #[.string s] 9)).alloc (.cells #[.string p] 9)).alloc (.cells #[.int .i64 0] 3)) := by
  have hmf : ∀ (fn : Fn) (first cap : Array Value) (w : World), (Instr.makeFunc fn first cap).run Tryd.prog w = .ok (.func fn first cap) w := fun _ _ _ _ => rfl
  go_enter Tryd.func49, Tryd.ntmps49
  go_wp2
  go_ret
  exact ⟨rfl, rfl⟩
theorem SplitSeq_any (s p : ByteArray) (w : World) :
    Calls Tryd.prog 32 #[.string s, .string p] w fun e w' => e = .returned (.func (.func 65) #[] #[.pointer (some ⟨w.heap.size + 1, 0, none⟩), .pointer (some ⟨w.heap.size, 0, none⟩), .pointer (some ⟨w.heap.size + 1 + 1, 0, none⟩)]) ∧ w' = (((w.alloc (.cells #[.string s] 9)).alloc (.cells #[.string p] 9)).alloc (.cells #[.int .i64 0] 3)) := by
  have h := splitSeq_any s p w
  go_enter Tryd.func32, Tryd.ntmps32
  go_wp2_with (first | (go_at_call 49; (with_reducible refine h.mono ?_); clear h; rintro e w2 ⟨rfl, rfl⟩))
  go_ret
  exact ⟨rfl, rfl⟩

end Go.Proofs.YtlcdhhaikhieiaaDoor
