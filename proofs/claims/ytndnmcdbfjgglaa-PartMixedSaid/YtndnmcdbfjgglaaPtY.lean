/- Join of pieces of which one is another record's, or two have changed places. -/
import Derived.Test.YtndnmcdbfjgglaaPtX
import Derived.Test.YtndnmcdbfjgglaaRowS
namespace Go.Proofs.Ytndnmcdbfjgglaa
open Go.RowKit
set_option linter.unusedVariables false
set_option maxRecDepth 20000

theorem mem_set2 {xs : List (List UInt8)} {i : Nat} {y x : List UInt8} (h : x ∈ xs.set i y) : x ∈ xs ∨ x = y := List.mem_or_eq_of_mem_set h
theorem good_short' {xs : List (List UInt8)} {s : Int} (h : GoodP xs s) : ∀ x ∈ xs, x.length ≤ 1000000 := fun x hx => by
  obtain ⟨k, hk, e⟩ := List.getElem_of_mem hx
  have := (h.2 k x (by rw [List.getElem?_eq_getElem hk, e])).1.1.2
  omega
theorem own_drew {w : World} {B e n : Nat} {v : Value} {vs : List Value} (h : w.ownsRow B e 1 v n vs) : w.drew.ownsRow B e 1 v n vs := h
theorem mixed_join {W w8 : World} {xb xo p g8 c8 : Nat} {xv : List Value} {xs ys : List (List UInt8)} {s t : Int} (XR : PRow W xb xo p xv xs) (hg : GoodP xs s) (hg' : GoodP ys t)
    (ho8 : w8.ownsRow W.heap.size 22 1 (.slice (some ⟨g8, 0, none⟩) p c8) p xv) (hB8 : W.heap.size ≤ g8) (b8 : Below W.heap.size W w8) {i : Nat} (hip : i < p) {y : List UInt8} {A : Option Addr} {m c : Nat}
    (hy : ys[i]? = some y) (hE : EPc TK W y [.slice A m c]) (hp5 : p ≤ 5) (h1 : 1 < p) (hd : s ≠ t ∨ p ≠ ys.length) :
    Calls Try.prog 10 #[.slice (some ⟨g8, 0, none⟩) p c8] (w8.setCell ⟨g8, i, none⟩ (.slice A m c)) (JoinP (w8.setCell ⟨g8, i, none⟩ (.slice A m c)) (0, [], false)) ∧ Below W.heap.size W (w8.setCell ⟨g8, i, none⟩ (.slice A m c)) := by
  have bz : Below W.heap.size W (w8.setCell ⟨g8, i, none⟩ (.slice A m c)) := b8.setCell (p := ⟨g8, i, none⟩) hB8 _
  have hxl := XR.len
  have hx : xs[i]? = some (xs[i]'(by omega)) := List.getElem?_eq_getElem (by omega)
  obtain ⟨A', c', e, _, hp⟩ := own_pcs (xs := xs.set i y) (own_setC ho8 i (.slice A m c)) (hd_set (hd_below XR.hd bz) hx (EPc.ok.below hE bz)) (by simpa using hxl)
  injection e with e1 e2 e3
  subst e1
  refine ⟨?_, bz⟩
  have := PJoin_any _ p c8 _ _ hp (by omega) (fun x hx => by
    rcases mem_set2 hx with h | h
    · exact good_short' hg x h
    · rw [h]; exact good_short' hg' y (List.mem_of_getElem? hy))
  rwa [joinL_no (mix_no hg hg' (by omega) hy (by omega) (by rw [hxl]; exact hd))] at this
theorem turned_join {W w8 : World} {xb xo p g8 c8 : Nat} {xv : List Value} {xs : List (List UInt8)} {s : Int} (XR : PRow W xb xo p xv xs) (hg : GoodP xs s)
    (ho8 : w8.ownsRow W.heap.size 22 1 (.slice (some ⟨g8, 0, none⟩) p c8) p xv) (hB8 : W.heap.size ≤ g8) (b8 : Below W.heap.size W w8) {i j : Nat} (hip : i < p) (hjp : j < p) (hij : i ≠ j)
    {yi yj : List UInt8} {Ai Aj : Option Addr} {mi ci mj cj : Nat} (hyi : xs[i]? = some yi) (hyj : xs[j]? = some yj) (hEi : EPc TK W yi [.slice Ai mi ci]) (hEj : EPc TK W yj [.slice Aj mj cj]) (hp5 : p ≤ 5) :
    Calls Try.prog 10 #[.slice (some ⟨g8, 0, none⟩) p c8] ((w8.setCell ⟨g8, i, none⟩ (.slice Aj mj cj)).setCell ⟨g8, j, none⟩ (.slice Ai mi ci)).drew (JoinP ((w8.setCell ⟨g8, i, none⟩ (.slice Aj mj cj)).setCell ⟨g8, j, none⟩ (.slice Ai mi ci)).drew (0, [], false)) ∧
      Below W.heap.size W ((w8.setCell ⟨g8, i, none⟩ (.slice Aj mj cj)).setCell ⟨g8, j, none⟩ (.slice Ai mi ci)).drew := by
  have bz : Below W.heap.size W ((w8.setCell ⟨g8, i, none⟩ (.slice Aj mj cj)).setCell ⟨g8, j, none⟩ (.slice Ai mi ci)).drew := ((b8.setCell (p := ⟨g8, i, none⟩) hB8 _).setCell (p := ⟨g8, j, none⟩) hB8 _).drew
  have hxl := XR.len
  obtain ⟨A', c', e, _, hp⟩ := own_pcs (xs := (xs.set i yj).set j yi) (own_drew (own_setC (own_setC ho8 i (.slice Aj mj cj)) j (.slice Ai mi ci)))
    (hd_set (hd_set (hd_below XR.hd bz) hyi (EPc.ok.below hEj bz)) (by rw [List.getElem?_set_ne hij]; exact hyj) (EPc.ok.below hEi bz)) (by simpa using hxl)
  injection e with e1 e2 e3
  subst e1
  refine ⟨?_, bz⟩
  have := PJoin_any _ p c8 _ _ hp (by omega) (fun x hx => by
    rcases mem_set2 hx with h | h
    · rcases mem_set2 h with h | h
      · exact good_short' hg x h
      · rw [h]; exact good_short' hg yj (List.mem_of_getElem? hyj)
    · rw [h]; exact good_short' hg yi (List.mem_of_getElem? hyi))
  rwa [joinL_no (turn_no hg hij (by omega) hyj)] at this
end Go.Proofs.Ytndnmcdbfjgglaa
