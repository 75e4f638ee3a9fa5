/- A result with a voter in a block of its own; what a copy of a voter or of nodes gives to read. -/
import Derived.Test.YtglpbkicmpmepaaZe
import Derived.Test.YtglpbkicmpmepaaZh
namespace Go.Proofs.Ytglpbkicmpmepaa
open Go.RowKit Go.Maps Go.WideMaps

/-- A result in block R: its choices in a row of their own, which lies beside R. -/
def SRg (w1 wc : World) (R : Nat) (cd : Int) (v : Vo) (rk rl : Int) (res : List Mb) : Prop :=
  w1.heap.size ≤ R ∧ Below w1.heap.size w1 wc ∧ ∃ va vc lo hi, wc.heap[R]? = some (.cells #[.int .i64 cd, .int .i64 v.k, .int .i64 v.d, .int .i64 v.b, .int .i64 v.p, .int .i64 v.q, .int .i64 v.t, .int .i64 rk, .int .i64 rl, .slice va res.length vc] 36 (0, 0)) ∧ OwnR wc lo hi 74 3 (.slice va res.length vc) res.length (mcells res) ∧ w1.heap.size ≤ lo ∧ (R < lo ∨ hi ≤ R)
theorem srg_set {w1 uC : World} {R lo : Nat} {cd : Int} {v : Vo} {rk rl : Int} {res : List Mb} {va : Option Addr} {vc : Nat} (HOC : Hid (World.ownsRow uC lo 74 3 (.slice va res.length vc) res.length (mcells res))) (HCC : Hid (Below w1.heap.size w1 uC)) (HZ : Hid (uC.heap[R]? = some (.cells #[.int .i64 0, .int .i64 0, .int .i64 0, .int .i64 0, .int .i64 0, .int .i64 0, .int .i64 0, .int .i64 0, .int .i64 0, .slice none 0 0] 36 (0, 0)))) (hR1 : w1.heap.size ≤ R) (hR2 : R < lo) :
    Hid (SRg w1 ((((((((((uC.setCell ⟨R, 0, none⟩ (.int .i64 cd)).setCell ⟨R, 1, none⟩ (.int .i64 v.k)).setCell ⟨R, 2, none⟩ (.int .i64 v.d)).setCell ⟨R, 3, none⟩ (.int .i64 v.b)).setCell ⟨R, 4, none⟩ (.int .i64 v.p)).setCell ⟨R, 5, none⟩ (.int .i64 v.q)).setCell ⟨R, 6, none⟩ (.int .i64 v.t)).setCell ⟨R, 7, none⟩ (.int .i64 rk)).setCell ⟨R, 8, none⟩ (.int .i64 rl)).setCell ⟨R, 9, none⟩ (.slice va res.length vc)) R cd v rk rl res) :=
  ⟨hR1, below_set10V HCC.out hR1 _ _ _ _ _ _ _ _ _ _, va, vc, lo, uC.heap.size, set10V10 HZ.out _ _ _ _ _ _ _ _ _ _, ⟨row_set10V HOC.out hR2 _ _ _ _ _ _ _ _ _ _, (OwnR.of HOC.out).tb⟩, by omega, .inl hR2⟩
theorem srg_new {w1 uC : World} {lo : Nat} {cd : Int} {v : Vo} {rk rl : Int} {res : List Mb} {va : Option Addr} {vc : Nat} (HOC : Hid (World.ownsRow uC lo 74 3 (.slice va res.length vc) res.length (mcells res))) (HCC : Hid (Below w1.heap.size w1 uC)) (hlo : w1.heap.size ≤ lo) :
    Hid (SRg w1 (uC.alloc (.cells #[.int .i64 cd, .int .i64 v.k, .int .i64 v.d, .int .i64 v.b, .int .i64 v.p, .int .i64 v.q, .int .i64 v.t, .int .i64 rk, .int .i64 rl, .slice va res.length vc] 36)) uC.heap.size cd v rk rl res) :=
  ⟨HCC.out.size, HCC.out.trans ((below_box _).mono HCC.out.size), va, vc, lo, uC.heap.size, heap_alloc_new _ _, (OwnR.of HOC.out).below (below_box _), hlo, .inr (Nat.le_refl _)⟩
/-- A row that can be read, with room. -/
def NV (W : World) (n cc g : Nat) (ms : List Mb) : Prop := n ≤ cc ∧ cc ≤ maxLen ∧ MAt W (some ⟨g, 0, none⟩) n ms
theorem hidV {W W' : World} {n cc g : Nat} {ms : List Mb} (h : Hid (NV W n cc g ms)) (hb : Below W.heap.size W W') : Hid (NV W' n cc g ms) := ⟨h.out.1, h.out.2.1, h.out.2.2.below hb (Nat.le_refl _)⟩
theorem NV.of {W : World} {lo n cc g : Nat} {ms : List Mb} {t : TypeId} (h : W.ownsRow lo t 3 (.slice (some ⟨g, 0, none⟩) n cc) n (mcells ms)) (hn : ms.length = n) : NV W n cc g ms := ⟨(row_capsV h).1, (row_capsV h).2, MAt.owned h hn⟩
theorem cell_newV {W : World} {A : Addr} {o : Obj} {v : Value} (h : W.cell? A = some v) : (W.alloc o).cell? A = some v := (World.cell?_alloc_lt _ _ _ (World.block_lt_of_cell? W A h)).trans h
theorem mkv_one {w : World} {f : Nat} {v : Value} {K K1 : Nat} {Q : World → Prop} (hK : K = K1) (h : Calls Try.prog f #[v, .int .i64 ((1 : Nat) : Int)] w fun e w' => e = .returned (.int .i64 (K : Nat)) ∧ Q w') : Calls Try.prog f #[v, .int .i64 1] w fun e w' => e = .returned (.int .i64 (K1 : Nat)) ∧ Q w' := by subst hK; exact h
theorem mkv_eq {w : World} {f : Nat} {v : Value} {k K K1 : Nat} {Q : World → Prop} (hK : K = K1) (h : Calls Try.prog f #[v, .int .i64 (k : Nat)] w fun e w' => e = .returned (.int .i64 (K : Nat)) ∧ Q w') : Calls Try.prog f #[v, .int .i64 (k : Nat)] w fun e w' => e = .returned (.int .i64 (K1 : Nat)) ∧ Q w' := by subst hK; exact h

end Go.Proofs.Ytglpbkicmpmepaa
