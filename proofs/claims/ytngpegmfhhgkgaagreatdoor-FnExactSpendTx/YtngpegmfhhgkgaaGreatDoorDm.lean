/- Has the purse a coin of a transaction? -/
import Derived.Test.YtngpegmfhhgkgaaGreatDoorDe
import Derived.Maps.RangeWalk
namespace Go.Proofs.YtngpegmfhhgkgaaGreatDoor
open Go.RowKit Go.Maps Go.WideMaps

def txIn (ps : List (Co × Value)) (t : Int) : Bool := ps.any fun x => decide (x.1.p = t)
/-- None of those that have come is of the transaction. -/
def NotYet (ps : List (Co × Value)) (t : Int) (left : Lit → Bool) : Prop := ∀ x ∈ ps, ∀ kl, keyOf Tryz.prog 63 (encR (refOf x)) = some kl → left kl = false → x.1.p ≠ t
theorem notYet_start {D : DataW Value} {ps : List (Co × Value)} (h : Told D ps) (t : Int) : NotYet ps t (fun kl => Maps.has D kl) := fun x hx kl hk hl => by
  have := h.look (refOf x) kl hk
  rw [find_mem h.refs hx] at this
  have hl' : Maps.has D kl = false := hl
  rw [this.1] at hl'
  cases hl'
theorem notYet_step {ps : List (Co × Value)} {t : Int} {left : Lit → Bool} (h : NotYet ps t left) (hrefs : ps.Pairwise fun x y => refOf x ≠ refOf y) {z : Co × Value} {kl : Lit} (hz : z ∈ ps) (hk : keyOf Tryz.prog 63 (encR (refOf z)) = some kl) (hne : z.1.p ≠ t) : NotYet ps t (fun s => left s && !s.sameKey kl) := fun x hx kl' hk' hl => by
  by_cases e : x = z
  · rw [e]; exact hne
  · have hne2 : kl' ≠ kl := fun e2 => e (refs_inj hrefs x hx z hz (encR_inj (kR.inj hk' (by rw [e2]; exact hk))))
    refine h x hx kl' hk' ?_
    have h2 : (left kl' && !kl'.sameKey kl) = false := hl
    rw [sameKey_ne hne2] at h2
    simpa using h2
theorem notYet_end {ps : List (Co × Value)} {t : Int} {left : Lit → Bool} (h : NotYet ps t left) (hw : ∀ x ∈ ps, (Lit.int .i64 x.1.p).wf = true ∧ (Lit.int .i64 x.1.q).wf = true) (hl : ∀ kl, left kl = false) : txIn ps t = false := by
  unfold txIn
  rw [List.any_eq_false]
  intro x hx
  obtain ⟨kl, hk⟩ := keyRf (r := refOf x) (hw x hx).1 (hw x hx).2
  simpa using h x hx kl hk (hl kl)
theorem txIn_true {ps : List (Co × Value)} {z : Co × Value} {t : Int} (hz : z ∈ ps) (e : z.1.p = t) : txIn ps t = true := by
  unfold txIn
  rw [List.any_eq_true]
  exact ⟨z, hz, by simpa using e⟩

set_option maxRecDepth 100000 in
set_option maxHeartbeats 2000000 in
theorem hasTx_any (B lo : Nat) (t : Int) (ps : List (Co × Value)) (w : World) (hP : Pu w lo B ps) :
    Calls Tryz.prog 54 #[.map (some B), .int .i64 t] w fun e w' => e = .returned (.bool (txIn ps t)) ∧ Below w.heap.size w w' := by
  obtain ⟨D, hown, hsz, hat0⟩ := hP.map
  have hT : Told D ps := ⟨hsz, hat0, hP.refs, hP.wfs, fun x hx => by
    rcases (hP.rows x hx).2 with ⟨e1, _⟩ | ⟨g, cp, cur, e1, _⟩
    · exact ⟨none, 0, 0, e1⟩
    · exact ⟨_, _, _, e1⟩⟩
  have HT : Hid (Told D ps) := hT
  clear hP hsz hat0 hT
  go_enter Tryz.func54, Tryz.ntmps54
  go_wp2_with (first
    | (at_range; refine wpList_range_own _ rfl _ 73 rfl 63 68 kR Tryz.underlying73 _ B ps.length _ rfl hown ?_; intro w0 hrg0 hg0 hs0))
  go_frame
  go_loopw [5] (fun _ wr => ∃ (left : Lit → Bool) (cnt : Nat), wr.ranges Tryz.prog 63 Rv B w.heap.size ps.length D left cnt ∧ Hid (NotYet ps t left) ∧ Hid (Below w.heap.size w wr)) (fun _ wr => wr.rangeLeft B w.heap.size)
  case atStart => exact ⟨_, _, hrg0, notYet_start HT.out t, (Below.refl _ w).grown hg0 (Nat.le_refl _) (fun k e => by cases e)⟩
  case round =>
    obtain ⟨left, cnt, hrg, HN, HB⟩ := hrel
    go_wp2_with (first
      | (at_next; refine wpList_next_ranges _ rfl _ rfl 63 kR Rv id id (fun key kl hk => ⟨key, rfl⟩) (fun v _ _ => ⟨v, rfl⟩) B w.heap.size ps.length _ _ _ rfl hrg ?_ ?_))
    · intro hc0 hl0
      go_wp2
      go_ret
      exact ⟨by rw [notYet_end HN.out HT.out.wfs hl0]; rfl, HB.out⟩
    · intro x c kl yd yp w2 cnt2 hkey hlk hv hat hrg2 hlt hg2 hs2 hen
      obtain rfl : yd = .held c := (Prod.mk.inj (show (DataW.held c, ([] : List MemPlace)) = (yd, yp) from Option.some.inj hv)).1.symm
      obtain ⟨z, hz, rfl, rfl, _, _⟩ := come_which HT.out (show keyOf Tryz.prog 63 x = some kl from hkey) hat
      have hkz : keyOf Tryz.prog 63 (encR (refOf z.1)) = some kl := hkey
      have hB2 : Below w.heap.size w w2 := HB.out.grown hg2 HB.out.size (fun k e => by cases e; exact Nat.le_refl _)
      have HB3 : Hid (Below w.heap.size w (w2.alloc (.cells #[.int .i64 z.1.1.p, .int .i64 z.1.1.q] 63))) := hB2.trans ((below_box _).mono hB2.size)
      have hrg3 := hrg2.of_walks (KeepsWalks.alloc w2 (.cells #[.int .i64 z.1.1.p, .int .i64 z.1.1.q] 63))
      dsimp only [coV, encR, refOf, id] at hen ⊢
      clear hs2 hB2 hkey hat hv
      by_cases hzt : z.1.1.p = t
      · have HX : Hid (txIn ps t = true) := txIn_true hz hzt
        clear hrg hrg2 hrg3 hz hkz
        go_wp2
        go_ret
        exact ⟨by rw [HX.out]; rfl, by have := HB3.out; rwa [hzt] at this⟩
      · have HS : Hid (NotYet ps t (fun s => left s && !s.sameKey kl)) := notYet_step HN.out HT.out.refs hz hkz hzt
        have HR3 : Hid ((w2.alloc (.cells #[.int .i64 z.1.1.p, .int .i64 z.1.1.q] 63)).ranges Tryz.prog 63 Rv B w.heap.size ps.length D (fun s => left s && !s.sameKey kl) cnt2) := hrg3
        have HR0 : Hid (wr.ranges Tryz.prog 63 Rv B w.heap.size ps.length D left cnt) := hrg
        clear hrg2 hrg3 hrg hz hkz
        go_wp2
        go_roundw
        case rel => exact ⟨_, cnt2, HR3.out, HS.out, HB3.out⟩
        case measure => rw [HR3.out.left_eq, HR0.out.left_eq]; exact hlt

end Go.Proofs.YtngpegmfhhgkgaaGreatDoor
