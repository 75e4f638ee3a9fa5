/- The specification's TakeCoins. -/
import Derived.Test.YtdfijlcjmllplaaDj
import Derived.Test.YtdfijlcjmllplaaJn5
import Derived.Test.YtdfijlcjmllplaaJn3
namespace Go.Proofs.Ytdfijlcjmllplaa
open Go.RowKit Go.Maps Go.WideMaps

theorem get_mem {ts : List Co} {m j : Nat} (hl : ts.length = m) (hj : j < m) : ts.getD j C0 ∈ ts := by
  rw [List.getD, List.getElem?_eq_getElem (by omega)]; exact List.getElem_mem _
theorem own_at2 {w : World} {lo hi n : Nat} {a : Option Addr} {c : Nat} {cs : List Co} {kv : Nat → Value} (h : COwn w lo hi (.slice a n c) n (fun j => cs.getD j C0) kv) (hn : cs.length = n) (hl : ∀ j, j < n → (cs.getD j C0).l.length ≤ 1048576) : CAt w a n cs := by
  obtain ⟨a', c', e, h2⟩ := h.at hn (fun j _ => rfl) hl
  cases e
  exact h2

end Go.Proofs.Ytdfijlcjmllplaa
