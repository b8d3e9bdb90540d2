/- A device of the call's own, its state hidden but for a property P; blocks of keep are none of its. -/
import Derived.Test.YtieknelmfjkbhaaDkI
import Derived.Test.YtieknelmfjkbhaaDkL
namespace Go.Proofs.Ytieknelmfjkbhaa
open Go.RowKit Go.Maps

def Dev (w0 w : World) (N p K : Nat) (keep : Nat → Prop) (P : St → Prop) : Prop :=
  ∃ own s, Below w0.heap.size w0 w ∧ (∀ x, own x → w0.heap.size ≤ x) ∧ (∀ x, keep x → x < w.heap.size ∧ ¬ own x) ∧ Dv w own N p s ∧ s.k = K ∧ P s
def Stays (keep : Nat → Prop) (w w' : World) : Prop := w.heap.size ≤ w'.heap.size ∧ ∀ x, keep x → w'.heap[x]? = w.heap[x]?
theorem Stays.refl (keep : Nat → Prop) (w : World) : Stays keep w w := ⟨Nat.le_refl _, fun _ _ => rfl⟩
theorem Stays.trans {keep : Nat → Prop} {a b c : World} (h : Stays keep a b) (k : Stays keep b c) : Stays keep a c := ⟨Nat.le_trans h.1 k.1, fun x hx => (k.2 x hx).trans (h.2 x hx)⟩
theorem Stays.less {keep keep' : Nat → Prop} {a b : World} (h : Stays keep a b) (hk : ∀ x, keep' x → keep x) : Stays keep' a b := ⟨h.1, fun x hx => h.2 x (hk x hx)⟩

section
variable {w0 w w' : World} {N p K : Nat} {keep : Nat → Prop} {P Q : St → Prop}

theorem Dev.under (h : Dev w0 w N p K keep P) : Below w0.heap.size w0 w := by obtain ⟨_, _, hb, _⟩ := h; exact hb
theorem Dev.imp (h : Dev w0 w N p K keep P) (hi : ∀ s, SWf s → P s → Q s) : Dev w0 w N p K keep Q := by
  obtain ⟨own, s, h1, h2, h3, h4, h5, h6⟩ := h
  have h4' := h4
  obtain ⟨_, m, sv, f, D⟩ := h4'
  exact ⟨own, s, h1, h2, h3, h4, h5, hi s D.swf h6⟩
theorem Dev.less (h : Dev w0 w N p K keep P) {keep' : Nat → Prop} (hk : ∀ x, keep' x → keep x) : Dev w0 w N p K keep' P := by
  obtain ⟨own, s, h1, h2, h3, h4, h5, h6⟩ := h
  exact ⟨own, s, h1, h2, fun x hx => h3 x (hk x hx), h4, h5, h6⟩
theorem Dev.more (h : Dev w0 w N p K keep P) (hb : Below w.heap.size w w') (more : Nat → Prop) (hm : ∀ x, more x → w.heap.size ≤ x ∧ x < w'.heap.size) : Dev w0 w' N p K (fun x => keep x ∨ more x) P := by
  obtain ⟨own, s, h1, h2, h3, ⟨hd, m, sv, f, D⟩, h5, h6⟩ := h
  refine ⟨own, s, h1.trans (hb.mono h1.size), h2, fun x hx => ?_, ⟨fun x hx => Nat.lt_of_lt_of_le (hd x hx) hb.size, m, sv, f, D.below hb⟩, h5, h6⟩
  rcases hx with hx | hx
  · exact ⟨Nat.lt_of_lt_of_le (h3 x hx).1 hb.size, (h3 x hx).2⟩
  · refine ⟨(hm x hx).2, fun ho => ?_⟩
    have := hd x ho
    have := (hm x hx).1
    omega
theorem Dev.below (h : Dev w0 w N p K keep P) (hb : Below w.heap.size w w') : Dev w0 w' N p K keep P := (h.more hb (fun _ => False) (fun _ hx => hx.elim)).less (fun _ hx => .inl hx)
theorem Dev.stays (h : Dev w0 w N p K keep P) (hb : Below w.heap.size w w') : Stays keep w w' := ⟨hb.size, fun x hx => by
  obtain ⟨own, s, _, _, h3, _⟩ := h
  exact hb.block x (h3 x hx).1⟩
theorem Dev.set (h : Dev w0 w N p K keep P) {g : Nat} (hg : keep g) (h0 : w0.heap.size ≤ g) (i : Nat) (v : Value) : Dev w0 (w.setCell ⟨g, i, none⟩ v) N p K keep P := by
  obtain ⟨own, s, h1, h2, h3, ⟨hd, m, sv, f, D⟩, h5, h6⟩ := h
  have hs : (w.setCell ⟨g, i, none⟩ v).heap.size = w.heap.size := by simp [World.setCell]
  exact ⟨own, s, h1.setCell (p := ⟨g, i, none⟩) h0 v, h2, fun x hx => ⟨by rw [hs]; exact (h3 x hx).1, (h3 x hx).2⟩, ⟨fun x hx => by rw [hs]; exact hd x hx, m, sv, f, D.kept (Fr.setCell (own := (· = g)) w (p := ⟨g, i, none⟩) rfl v) (fun x hx e => (h3 g hg).2 (by rw [← show x = g from e]; exact hx))⟩, h5, h6⟩
theorem Dev.goes {own : Nat → Prop} {s' : St} (h1 : Below w0.heap.size w0 w) (h2 : ∀ x, own x → w0.heap.size ≤ x) (h3 : ∀ x, keep x → x < w.heap.size ∧ ¬ own x) (hG : Goes w own N p s' w') (hk : s'.k = K) (hP : Q s') : Dev w0 w' N p K keep Q ∧ Stays keep w w' := by
  obtain ⟨hf, own', ho, hD⟩ := hG
  refine ⟨⟨own', s', h1.trans (hf.toBelow h2 h1.size), fun x hx => ?_, fun x hx => ⟨Nat.lt_of_lt_of_le (h3 x hx).1 hf.size, fun hx' => ?_⟩, hD, hk, hP⟩, hf.size, fun x hx => hf.block x (h3 x hx).1 (h3 x hx).2⟩
  · rcases ho x hx with h | h
    · exact h2 x h
    · have := h1.size; omega
  · rcases ho x hx' with h | h
    · exact (h3 x hx).2 h
    · have := (h3 x hx).1; omega
theorem Rd.stays {A : Option Addr} {n : Nat} {l : List UInt8} (h : Rd w A n l) (hs : Stays keep w w') (hk : ∀ b o, A = some ⟨b, o, none⟩ → keep b) : Rd w' A n l :=
  h.block hs.1 (fun b o e => hs.2 b (hk b o e))

theorem New_dev (n : Int) (w : World) (hn : 0 ≤ n ∧ n ≤ 4096) :
    Calls Try.prog 8 #[.int .i64 n] w fun e w' => ∃ p, e = .returned (.pointer (some ⟨p, 0, none⟩)) ∧ Dev w w' 0 p n.toNat (fun _ => False) (fun s => s = fresh n.toNat (List.replicate (512 * n.toNat) 0)) := by
  refine (New_any n w).mono ?_
  rintro e w' ⟨p, own, he, hb, ho, hD⟩
  rw [show (min (max n 0) 4096).toNat = n.toNat by omega] at hD
  exact ⟨p, he, own, _, hb, ho, fun _ hx => hx.elim, hD, rfl, rfl⟩

theorem arg_out {own : Nat → Prop} {A : Option Addr} {n : Nat} {l : List UInt8} (h : Rd w0 A n l) (h2 : ∀ x, own x → w0.heap.size ≤ x) : ∀ b o, A = some ⟨b, o, none⟩ → 0 < n → ¬ own b := fun b o e hn hx => by
  obtain ⟨b', o', e', hlt, _⟩ := h.2 hn
  rw [e] at e'
  injection e' with e'
  injection e' with e1 _
  have := h2 b hx
  omega
theorem arg_outF {own : Nat → Prop} {A : Option Addr} {n : Nat} {l : List (Int × Int)} (h : FRd w0 A n l) (h2 : ∀ x, own x → w0.heap.size ≤ x) : ∀ b o, A = some ⟨b, o, none⟩ → 0 < n → ¬ own b := fun b o e hn hx => by
  obtain ⟨b', o', e', hlt, _⟩ := h.2 hn
  rw [e] at e'
  injection e' with e'
  injection e' with e1 _
  have := h2 b hx
  omega

theorem do_dev (h : Dev w0 w N p K keep P) (hN : N + 2 ≤ 1000000) (x : Stp) (hx : SOk w0 x) (hfn : x.fn ≤ 1000000) :
    Calls Try.prog 10 #[.pointer (some ⟨p, 0, none⟩), x.val] w fun e w' => ∃ A n c cd, e = .returned (.tuple #[.slice A n c, .int .i64 cd]) ∧ Dev w0 w' (N + 2) p K keep (fun s' => ∃ s, SWf s ∧ s.k = K ∧ P s ∧ s' = (s.go x).1) ∧ Stays keep w w' := by
  obtain ⟨own, s, h1, h2, h3, ⟨hd, m, sv, f, D⟩, h5, h6⟩ := h
  refine (do_any hd D hN x (hx.below h1) (arg_out hx.rb h2) (arg_outF hx.rf h2) hfn).mono ?_
  rintro e w' ⟨A, n, c, he, _, _, hG⟩
  obtain ⟨hD, hS⟩ := Dev.goes (K := K) (Q := fun s' => ∃ s, SWf s ∧ s.k = K ∧ P s ∧ s' = (s.go x).1) h1 h2 h3 hG (by rw [go_k]; exact h5) ⟨s, D.swf, h5, h6, rfl⟩
  exact ⟨A, n, c, _, he, hD, hS⟩

theorem Crash_dev (h : Dev w0 w N p K keep P) (A : Option Addr) (nf c : Nat) (fs : List (Int × Int)) (hF : FRd w0 A nf fs) (hnf : nf ≤ 1000000) :
    Calls Try.prog 22 #[.pointer (some ⟨p, 0, none⟩), .slice A nf c] w fun e w' => e = .returned (.tuple #[]) ∧ Dev w0 w' N p K keep (fun s' => ∃ s, SWf s ∧ s.k = K ∧ P s ∧ s' = s.crash fun n => fs.getD n (0, 0)) ∧ Stays keep w w' := by
  obtain ⟨own, s, h1, h2, h3, ⟨hd, m, sv, f, D⟩, h5, h6⟩ := h
  refine (Crash_any hd D A nf c fs (hF.below h1) (arg_outF hF h2) hnf).mono ?_
  rintro e w' ⟨he, hf, hD⟩
  have := Dev.goes (w0 := w0) (K := K) (Q := fun s' => ∃ s, SWf s ∧ s.k = K ∧ P s ∧ s' = s.crash fun n => fs.getD n (0, 0)) h1 h2 h3 (Goes.of hd hf hD (Nat.le_refl _) hD.nle) (by rw [crash_k]; exact h5) ⟨s, D.swf, h5, h6, rfl⟩
  exact ⟨he, this⟩

theorem Bytes_dev (h : Dev w0 w N p K keep P) :
    Calls Try.prog 19 #[.pointer (some ⟨p, 0, none⟩)] w fun e w' => ∃ A c L, e = .returned (.slice A (512 * K) c) ∧ 512 * K ≤ c ∧ c ≤ maxLen ∧ Rd w' A (512 * K) L ∧ (∀ b o, A = some ⟨b, o, none⟩ → w0.heap.size ≤ b) ∧
      Dev w0 w' N p K (fun x => keep x ∨ (0 < K ∧ ∃ o, A = some ⟨x, o, none⟩)) (fun s => P s ∧ s.safe = L) ∧ Stays keep w w' := by
  obtain ⟨own, s, h1, h2, h3, ⟨hd, m, sv, f, D⟩, rfl, h6⟩ := h
  refine (Bytes_any D).mono ?_
  rintro e w' ⟨A, c, he, hc, hm, hr, hA, hb⟩
  have hdev : Dev w0 w N p s.k keep (fun t => P t ∧ t.safe = s.safe) := ⟨own, s, h1, h2, h3, ⟨hd, m, sv, f, D⟩, rfl, h6, rfl⟩
  refine ⟨A, c, s.safe, he, hc, hm, hr, fun b o e => by have := hA b o e; have := h1.size; omega, hdev.more hb _ (fun x hx => ?_), hdev.stays hb⟩
  obtain ⟨hk, o, e⟩ := hx
  obtain ⟨b', o', e', hlt, _⟩ := hr.2 (by omega)
  rw [e] at e'
  injection e' with e'
  injection e' with e1 _
  exact ⟨hA x o e, by omega⟩

theorem Off_dev (h : Dev w0 w N p K keep P) (hP : ∀ s, P s → s.off = false) : Calls Try.prog 13 #[.pointer (some ⟨p, 0, none⟩)] w fun e w' => e = .returned (.bool false) ∧ w = w' := by
  obtain ⟨own, s, h1, h2, h3, ⟨hd, m, sv, f, D⟩, rfl, h6⟩ := h
  have := Off_any D
  rw [hP s h6] at this
  exact this
theorem Sync_dev (h : Dev w0 w N p K keep P) (hP : ∀ s, P s → s.ok = true) :
    Calls Try.prog 24 #[.pointer (some ⟨p, 0, none⟩)] w fun e w' => e = .returned (.int .i64 0) ∧ Dev w0 w' N p K keep (fun s' => ∃ s, SWf s ∧ s.k = K ∧ P s ∧ s' = s.burn.sync) ∧ Stays keep w w' := by
  obtain ⟨own, s, h1, h2, h3, ⟨hd, m, sv, f, D⟩, h5, h6⟩ := h
  refine (Sync_ok hd D (hP s h6)).mono ?_
  rintro e w' ⟨he, hf, hD⟩
  have := Dev.goes (w0 := w0) (K := K) (Q := fun s' => ∃ s, SWf s ∧ s.k = K ∧ P s ∧ s' = s.burn.sync) h1 h2 h3 (Goes.of hd hf hD (Nat.le_refl _) hD.nle) h5 ⟨s, D.swf, h5, h6, rfl⟩
  exact ⟨he, this⟩
theorem Dirty_dev (h : Dev w0 w N p K keep P) (hP : ∀ s, P s → s.dirty = []) :
    Calls Try.prog 17 #[.pointer (some ⟨p, 0, none⟩)] w fun e w' => ∃ A c, e = .returned (.slice A 0 c) ∧ Below w.heap.size w w' := by
  obtain ⟨own, s, h1, h2, h3, ⟨hd, m, sv, f, D⟩, h5, h6⟩ := h
  have := Dirty_any D
  rw [hP s h6] at this
  refine this.mono ?_
  rintro e w' ⟨g, c, he, _, hb⟩
  exact ⟨_, c, he, hb⟩
end
end Go.Proofs.Ytieknelmfjkbhaa
