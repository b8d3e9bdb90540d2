/- For the law DiskSteps: a device that agrees with the reference's state, method by method. -/
import Derived.Test.YtieknelmfjkbhaaDr12
import Derived.Test.YtieknelmfjkbhaaSameL
namespace Go.Proofs.Ytieknelmfjkbhaa
open Go.RowKit

theorem flat_secs (k : Nat) (l : List UInt8) (h : 512 * k ≤ l.length) : ((List.range k).map (secL l)).flatten = l.take (512 * k) := by
  induction k with
  | zero => simp
  | succ k ih =>
    rw [List.range_succ, List.map_append, List.flatten_append, ih (by omega)]
    simp only [List.map_cons, List.map_nil, List.flatten_cons, List.flatten_nil, List.append_nil, secL]
    rw [show 512 * (k + 1) = 512 * k + 512 by omega, List.take_add]
theorem Agree.flat {s : St} {r : Rs} (h : Agree s r) (hw : SWf s) : r.safe.flatten = s.safe := by
  have e : r.safe = (List.range s.k).map (secL s.safe) := by
    apply List.ext_getElem
    · rw [h.n]; simp
    · intro i h1 h2
      have hi : i < s.k := by rw [← h.n]; exact h1
      have := h.sec i hi
      rw [List.getD, List.getElem?_eq_getElem h1] at this
      simp only [List.getElem_map, List.getElem_range]
      exact this
  have hl := hw.len
  rw [e, flat_secs _ _ (by omega), List.take_of_length_le (by omega)]

theorem zero512_rep : zero512 = List.replicate 512 0 := by
  unfold zero512 cut
  rw [List.eq_replicate_iff]
  refine ⟨by simp, fun b hb => ?_⟩
  obtain ⟨i, _, rfl⟩ := List.mem_map.1 hb
  rfl
theorem fresh_agree (K : Nat) : Agree (fresh K (List.replicate (512 * K) 0)) ⟨List.replicate K zero512, [], -1, false, 0, 0⟩ := by
  refine ⟨by simp [fresh], fun i hi => ?_, fun i => rfl, fun x hx => absurd hx List.not_mem_nil, .inl rfl, rfl, rfl, rfl⟩
  have hi' : i < K := hi
  rw [List.getD, List.getElem?_eq_getElem (by simpa using hi'), List.getElem_replicate, zero512_rep]
  show _ = ((List.replicate (512 * K) 0).drop (512 * i)).take 512
  rw [List.drop_replicate, List.take_replicate, Nat.min_eq_left (by omega)]
  rfl

theorem Ho.hdS {B : Nat} {w : World} {vs : List Value} {ls : List (List UInt8)} (h : Ho B w vs ls) : HdS (fun x => B ≤ x ∧ x < w.heap.size) w vs ls :=
  ⟨h.1, fun j hj => by
    obtain ⟨b', c', h1, h2⟩ := h.2 j hj
    have hb := own_block h2 rfl
    obtain ⟨A, c, e, hc, hm, hr⟩ := Rd.of_own h2 rfl
    cases e
    obtain ⟨b, o, e, hlt, _⟩ := hr.2 (by decide)
    cases e
    exact ⟨b', 0, c', h1, ⟨hb, hlt⟩, hlt, hc, hm, hr⟩⟩

section
variable {w0 w w' : World} {N p K : Nat} {keep : Nat → Prop} {r : Rs}

theorem do_devA (h : Dev w0 w N p K keep (fun s => Agree s r)) (hN : N + 2 ≤ 1000000) (x : Stp) (hx : SOk w0 x) (hfn : x.fn ≤ 1000000) :
    Calls Try.prog 10 #[.pointer (some ⟨p, 0, none⟩), x.val] w fun e w' => ∃ A n c, e = .returned (.tuple #[.slice A n c, .int .i64 (r.go x).2.2]) ∧ n ≤ 512 ∧ Rd w' A n (r.go x).2.1 ∧ Dev w0 w' (N + 2) p K keep (fun s => Agree s (r.go x).1) ∧ Stays keep w w' := by
  obtain ⟨own, s, h1, h2, h3, ⟨hd, m, sv, f, D⟩, h5, h6⟩ := h
  refine (do_any hd D hN x (hx.below h1) (arg_out hx.rb h2) (arg_outF hx.rf h2) hfn).mono ?_
  rintro e w' ⟨A, n, c, he, hn, hr, hG⟩
  obtain ⟨g1, g2⟩ := h6.go D.swf x
  obtain ⟨hD, hS⟩ := Dev.goes (K := K) (Q := fun s' => Agree s' (r.go x).1) h1 h2 h3 hG (by rw [go_k]; exact h5) g1
  exact ⟨A, n, c, by rw [g2]; exact he, hn, by rw [g2]; exact hr, hD, hS⟩
theorem Off_devA (h : Dev w0 w N p K keep (fun s => Agree s r)) : Calls Try.prog 13 #[.pointer (some ⟨p, 0, none⟩)] w fun e w' => e = .returned (.bool r.off) ∧ w = w' := by
  obtain ⟨own, s, h1, h2, h3, ⟨hd, m, sv, f, D⟩, h5, h6⟩ := h
  rw [h6.off]; exact Off_any D
theorem Reads_devA (h : Dev w0 w N p K keep (fun s => Agree s r)) : Calls Try.prog 14 #[.pointer (some ⟨p, 0, none⟩)] w fun e w' => e = .returned (.int .i64 r.rd) ∧ w = w' := by
  obtain ⟨own, s, h1, h2, h3, ⟨hd, m, sv, f, D⟩, h5, h6⟩ := h
  rw [h6.rd]; exact Reads_any D
theorem Writes_devA (h : Dev w0 w N p K keep (fun s => Agree s r)) : Calls Try.prog 15 #[.pointer (some ⟨p, 0, none⟩)] w fun e w' => e = .returned (.int .i64 r.wr) ∧ w = w' := by
  obtain ⟨own, s, h1, h2, h3, ⟨hd, m, sv, f, D⟩, h5, h6⟩ := h
  rw [h6.wr]; exact Writes_any D
theorem Size_devA (h : Dev w0 w N p K keep (fun s => Agree s r)) : Calls Try.prog 21 #[.pointer (some ⟨p, 0, none⟩)] w fun e w' => e = .returned (.int .i64 K) ∧ w = w' := by
  obtain ⟨own, s, h1, h2, h3, ⟨hd, m, sv, f, D⟩, h5, h6⟩ := h
  rw [← h5]; exact Size_any D
theorem Dirty_devA (h : Dev w0 w N p K keep (fun s => Agree s r)) : Calls Try.prog 17 #[.pointer (some ⟨p, 0, none⟩)] w fun e w' => ∃ A c, e = .returned (.slice A (dirtyR r.safe.length r.wait).length c) ∧ IRd w' A (dirtyR r.safe.length r.wait).length ((dirtyR r.safe.length r.wait).map fun (i : Nat) => (i : Int)) ∧ Below w.heap.size w w' := by
  obtain ⟨own, s, h1, h2, h3, ⟨hd, m, sv, f, D⟩, h5, h6⟩ := h
  rw [h6.dirty]
  refine (Dirty_any D).mono ?_
  rintro e w' ⟨g, c, he, ho, hb⟩
  obtain ⟨A, c', e', hr⟩ := IRd.of_own ho
  cases e'
  exact ⟨_, c, he, hr, hb⟩
theorem Bytes_devA (h : Dev w0 w N p K keep (fun s => Agree s r)) : Calls Try.prog 19 #[.pointer (some ⟨p, 0, none⟩)] w fun e w' => ∃ A c, e = .returned (.slice A (512 * K) c) ∧ Rd w' A (512 * K) r.safe.flatten ∧ Below w.heap.size w w' := by
  obtain ⟨own, s, h1, h2, h3, ⟨hd, m, sv, f, D⟩, rfl, h6⟩ := h
  rw [h6.flat D.swf]
  refine (Bytes_any D).mono ?_
  rintro e w' ⟨A, c, he, _, _, hr, _, hb⟩
  exact ⟨A, c, he, hr, hb⟩
end
end Go.Proofs.Ytieknelmfjkbhaa
