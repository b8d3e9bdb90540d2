/- EcVd, EcVe, EcQ, SameL, EcT, EcL, EcV, CmO, EcO, CmSa, EcX -/
import Derived.Test.YtaoinkjjmakhaaaGreatDoorQl1
import Derived.Test.YtaoinkjjmakhaaaGreatDoorQl2
import Derived.Test.YtaoinkjjmakhaaaGreatDoorQl3
import Derived.Test.YtaoinkjjmakhaaaGreatDoorQl7
import Derived.Test.YtaoinkjjmakhaaaGreatDoorQl8
import Derived.Test.YtaoinkjjmakhaaaGreatDoorQl16
import Derived.BigQuiet
import Derived.Deep.QuietTactic
import Derived.Deep.DeepCutAuto
import Derived.Deep.RegionHeld3
import Derived.Lib.SmallJoins
import Derived.Deep.Slices
import Derived.Deep.Fields
import Derived.ChangeSame
import Derived.WideShapes
namespace Go.Proofs.YtaoinkjjmakhaaaGreatDoor
open Go.RowKit Go.Sort
set_option maxRecDepth 20000
abbrev Tn (tb : Nat -> Option Tb) : Type := { i : Nat // (tb i).isSome = true }
def tnV {tb : Nat -> Option Tb} (pt : Nat -> Nat) (x : Tn tb) : Value := .pointer (some ⟨pt x.1, 0, none⟩)
def tnD {tb : Nat -> Option Tb} (ns : List Nat) (h : ∀ n ∈ ns, (tb n).isSome = true) : List (Tn tb) := ns.pmap (fun n hn => ⟨n, hn⟩) h
theorem tnD_map {tb : Nat -> Option Tb} (ns : List Nat) (h : ∀ n ∈ ns, (tb n).isSome = true) : (tnD ns h).map (·.1) = ns := by
 unfold tnD
 rw [List.map_pmap]
 simp
theorem sortedP_fr {α : Type} [Inhabited α] (enc : α -> Value) (w : World) (blk off m : Nat) (d : Array α) (os : Array Obj) : Fr (· = blk) w (sortWorld enc w blk off m d os) :=
 ⟨rfl, rfl, rfl, by show w.heap.size <= (grow (putRow enc (Sort.ahead w m) blk off d) os).heap.size; rw [size_grow, show (putRow enc (Sort.ahead w m) blk off d).heap.size = w.heap.size from size_putRow enc (Sort.ahead w m) blk off d]; omega, fun b hb hn => by
  show (grow (putRow enc (Sort.ahead w m) blk off d) os).heap[b]? = _
  rw [heap_grow_old _ _ (by rw [show (putRow enc (Sort.ahead w m) blk off d).heap.size = w.heap.size from size_putRow enc (Sort.ahead w m) blk off d]; exact hb)]
  show (mapBlock (Sort.ahead w m) blk _).heap[b]? = _
  have : blk ≠ b := fun e => hn e.symm
  simp [mapBlock, Sort.ahead, Array.getElem?_modify, this]⟩
def TbRow (N : Nat) (w : World) (pt : Nat -> Nat) (A : Option Addr) (ns : List Nat) : Prop :=
 0 < ns.length -> ∃ g, A = some ⟨g, 0, none⟩ /\ N <= g /\ g < w.heap.size /\ ∀ j n, ns[j]? = some n -> w.cell? ⟨g, j, none⟩ = some (.pointer (some ⟨pt n, 0, none⟩))
theorem sortT_any {B : Nat} {v : Value} {ns : List Nat} {tb : Nat -> Option Tb} {pt : Nat -> Nat} (sg : Nat -> Nat) (w : World) (ho : w.ownsRow B 86 1 v ns.length (ns.map fun n => .pointer (some ⟨pt n, 0, none⟩))) (hns : ∀ n ∈ ns, (tb n).isSome = true) (hlen : ns.length <= 1000000000)
  (hsig : ∀ W, Fr (fun y => v.ownBlock = some y) w W -> ∀ n, (tb n).isSome = true -> Calls Tryz.prog 63 #[.pointer (some ⟨pt n, 0, none⟩)] W fun e w' => e = .returned (.int .u64 (sg n)) /\ W = w') :
  ∃ A c, v = .slice A ns.length c /\ Calls Tryz.prog 136 #[.slice A ns.length c, .func (.func 89) #[] #[]] w fun e w' => e = .returned (.tuple #[]) /\ ∃ ys : List Nat, ys.Perm ns /\ ys.Pairwise (fun x y => sg x <= sg y) /\ TbRow B w' pt A ys /\ Fr (fun y => v.ownBlock = some y) w w' := by
 obtain ⟨A, c, hv, hp⟩ := own_openS ho
 refine ⟨A, c, hv, ?_⟩
 by_cases h0 : ns.length = 0
 ·rw [h0]
  have hx : ns = [] := List.eq_nil_of_length_eq_zero h0
  subst hx
  refine (AnyF.slices_SortFunc_none { Tryz.sortP with } A c (.func (.func 89) #[] #[]) w).mono ?_
  rintro e w' ⟨rfl, rfl⟩
  exact ⟨rfl, [], List.Perm.refl _, List.Pairwise.nil, fun h => absurd h (Nat.lt_irrefl 0), Fr.refl _ _⟩
 ·obtain ⟨b, hA, hb, hc, hf⟩ := hp (by omega)
  subst hA
  have hB : B <= b := (own_geB ho (x := b) (by rw [hv]; rfl)).1
  haveI : Inhabited (Tn tb) := ⟨⟨ns[0]'(by omega), hns _ (List.getElem_mem _)⟩⟩
  obtain ⟨d, hd⟩ : ∃ d : List (Tn tb), d = tnD ns hns := ⟨_, rfl⟩
  have hdm : d.map (·.1) = ns := by rw [hd]; exact tnD_map ns hns
  have hdl : d.length = ns.length := by rw [<- hdm]; simp
  have hH : Holds (tnV pt) w b 0 d.toArray := fun j hj => by
   have hj' : j < d.length := by simpa using hj
   refine ⟨?_, by rw [Nat.zero_add]; exact hf j⟩
   rw [Nat.zero_add, getElem!_pos _ j hj]
   refine hc j _ ?_
   rw [<- hdm, List.getElem?_map, List.getElem?_map, List.getElem?_eq_getElem hj']
   rfl
  have hcmp : CmpReads Tryz.prog 89 #[] (tnV pt) (fun x y : Tn tb => Lib.compareInt (sg x.1 : Int) (sg y.1 : Int)) b 0 d.toArray.size w := fun m os dk _ x y => by
   have hfr : Fr (fun y => v.ownBlock = some y) w (sortWorld (tnV pt) w b 0 m dk os) := (sortedP_fr (tnV pt) w b 0 m dk os).mono (fun y hy => by rw [show y = b from hy, hv]; rfl)
   exact scmp_any _ _ _ _ _ (hsig _ hfr x.1 x.2) (hsig _ hfr y.1 y.2)
  have C := Any.slices_SortFunc Tryz.sortP (tnV pt) (fun x => rfl) (fun x y : Tn tb => Lib.compareInt (sg x.1 : Int) (sg y.1 : Int)) (swoBy fun x : Tn tb => (sg x.1 : Int)) 89 #[] b 0 c d.toArray w (enters_of Tryz.func89 (by kernel_rfl) rfl) hcmp.lays hH hb (by simp; omega)
  rw [show d.toArray.size = ns.length by simp; exact hdl] at C
  refine C.mono ?_
  rintro e w' ⟨rfl, d', m, os, hpm, hso, rfl⟩
  obtain ⟨hs, _, hper⟩ := hpm
  have hs' : d'.size = ns.length := by rw [hs]; simp; exact hdl
  have hown : (Value.slice (some ⟨b, 0, none⟩) ns.length c).ownBlock = some b := rfl
  rw [hv, hown]
  refine ⟨rfl, d'.toList.map (·.1), ?_, ?_, ?_, (sortedP_fr (tnV pt) w b 0 m d' os).mono (fun y hy => by rw [show y = b from hy])⟩
  ·have e1 : d'.extract 0 ns.length = d' := by rw [<- hs']; exact Array.extract_size
   have e2 : d.toArray.extract 0 ns.length = d.toArray := by rw [<- hdl]; simp
   rw [e1, e2] at hper
   have := hper.map (fun x : Tn tb => x.1)
   rw [<- hdm]
   simpa using this
  ·rw [List.pairwise_map, List.pairwise_iff_getElem]
   intro i j hi hj hij
   have hi' : i < d'.size := by simpa using hi
   have hj' : j < d'.size := by simpa using hj
   have := hso i j (Nat.zero_le _) hij (by rw [<- hs']; exact hj')
   rw [ltBy, getElem!_pos d' i hi', getElem!_pos d' j hj'] at this
   have h2 := of_decide_eq_false this
   simp only [Array.getElem_toList]
   omega
  ·have hH' : Holds (tnV pt) (sortWorld (tnV pt) w b 0 m d' os) b 0 d' :=
    holds_grow (tnV pt) _ os b 0 d' (by rw [show (putRow (tnV pt) (Sort.ahead w m) b 0 d').heap.size = w.heap.size from size_putRow (tnV pt) (Sort.ahead w m) b 0 d']; exact hb) (holds_putRow (tnV pt) (Sort.ahead w m) b 0 d.toArray d' hH (by rw [hs', List.size_toArray, hdl]))
   refine fun _ => ⟨b, rfl, hB, Nat.lt_of_lt_of_le hb (sortedP_fr (tnV pt) w b 0 m d' os).size, fun j n hj => ?_⟩
   rw [List.getElem?_map] at hj
   obtain ⟨x, hx, rfl⟩ := Option.map_eq_some_iff.1 hj
   have hjl : j < d'.size := by simpa using (List.getElem?_eq_some_iff.1 hx).1
   have h1 := (hH' j hjl).1
   rw [getElem!_pos _ j hjl, Nat.zero_add] at h1
   rw [h1]
   rw [Array.getElem?_toList, Array.getElem?_eq_getElem hjl] at hx
   injection hx with hx
   rw [hx]
   rfl
theorem sortedFunc_any (Bm b nn : Nat) (tb : Nat -> Option Tb) (pt : Nat -> Nat) (sg : Nat -> Nat) (w : World) (hBm : Bm < w.heap.size) (hm : w.cell? ⟨Bm, 0, none⟩ = some (.map (some b))) (hmap : MapT w b nn (tbV tb pt)) (hnn : nn <= 1000000000) (hok : ∀ n, (tb n).isSome = true -> okN n)
  (hsig : ∀ W, Below w.heap.size w W -> ∀ n, (tb n).isSome = true -> Calls Tryz.prog 63 #[.pointer (some ⟨pt n, 0, none⟩)] W fun e w' => e = .returned (.int .u64 (sg n)) /\ W = w') :
  Calls Tryz.prog 87 #[.func (.func 137) #[] #[.pointer (some ⟨Bm, 0, none⟩)], .func (.func 89) #[] #[]] w fun e W' =>
   ∃ A m c ns, e = .returned (.slice A m c) /\ m = ns.length /\ ns.Nodup /\ (∀ n, n ∈ ns ↔ (tb n).isSome = true) /\ ns.length <= nn /\ ns.Pairwise (fun x y => sg x <= sg y) /\ TbRow w.heap.size W' pt A ns /\ Below w.heap.size w W' := by
 have C1 := hi_ (collect_any Bm b nn tb pt w hBm hm hmap hnn)
 have C2 := hi_ (show ∀ W v ss, NodesOf tb ss -> ss.length <= nn -> W.ownsRow w.heap.size 86 1 v ss.length (ss.map (ptV pt)) -> Below w.heap.size w W -> ∃ A c, v = .slice A ss.length c /\ Calls Tryz.prog 136 #[.slice A ss.length c, .func (.func 89) #[] #[]] W fun e W' => e = .returned (.tuple #[]) /\ ∃ ns : List Nat, ss.length = ns.length /\ ns.Nodup /\ (∀ n, n ∈ ns ↔ (tb n).isSome = true) /\ ns.length <= nn /\ ns.Pairwise (fun x y => sg x <= sg y) /\ TbRow w.heap.size W' pt A ns /\ Below w.heap.size w W' from by
  intro W v ss hss hl ho hb
  obtain ⟨ms, hms⟩ : ∃ ms : List Nat, ms = ss.map Int.toNat := ⟨_, rfl⟩
  have hml : ms.length = ss.length := by rw [hms]; simp
  have hcast : ∀ x ∈ ss, ((x.toNat : Nat) : Int) = x := fun x hx => by obtain ⟨i, rfl, _⟩ := (hss.2 x).1 hx; simp
  have hmem : ∀ n, n ∈ ms ↔ (tb n).isSome = true := fun n => by
   rw [hms, List.mem_map]
   constructor
   ·rintro ⟨x, hx, rfl⟩
    obtain ⟨i, rfl, _, hi⟩ := (hss.2 x).1 hx
    simpa using hi
   ·intro hn
    exact ⟨(n : Int), (hss.2 _).2 ⟨n, rfl, hok n hn, hn⟩, by simp⟩
  have hnd : ms.Nodup := by
   rw [hms, List.nodup_iff_pairwise_ne, List.pairwise_map]
   exact (List.nodup_iff_pairwise_ne.1 hss.1).imp_of_mem (fun {x y} hx hy hne e => hne (by rw [<- hcast x hx, <- hcast y hy, e]))
  have hrow : ss.map (ptV pt) = ms.map fun n => .pointer (some ⟨pt n, 0, none⟩) := by rw [hms, List.map_map]; rfl
  rw [hrow, <- hml] at ho
  obtain ⟨A, c, hv, CS⟩ := sortT_any (B := w.heap.size) sg W ho (fun n hn => (hmem n).1 hn) (by omega) (fun W2 h2 n hn => hsig W2 (hb.trans (h2.toBelow (fun y hy => (own_geB ho (x := y) hy).1) hb.size)) n hn)
  refine ⟨A, c, by rw [<- hml]; exact hv, ?_⟩
  rw [<- hml]
  refine CS.mono ?_
  rintro e w' ⟨rfl, ys, hp, hs, hr, hf⟩
  exact ⟨rfl, ys, hp.length_eq.symm, hp.symm.nodup hnd, fun n => by rw [hp.mem_iff]; exact hmem n, by rw [hp.length_eq]; omega, hs, hr, hb.trans (hf.toBelow (fun y hy => (own_geB ho (x := y) hy).1) hb.size)⟩)
 clear hBm hm hmap hnn hok hsig
 go_enter Tryz.func87, Tryz.ntmps87
 go_wp2_with (first
  | (go_at_call 135; refine C1.out.mono ?_; rintro e w2 ⟨v, ss, rfl, h1, h2, h3, h4⟩; obtain ⟨A, c, rfl, h5⟩ := C2.out w2 v ss h1 h2 h3 h4; have CS := hi_ h5; clear h1 h2 h3 h4 h5)
  | (go_at_call 136; refine CS.out.mono ?_; rintro e w3 ⟨rfl, ns, h1, h2⟩; have H := hi_ (And.intro h1 h2); clear h1 h2))
 go_ret
 exact ⟨A, _, c, ns, rfl, H.out.1, H.out.2⟩
end Go.Proofs.YtaoinkjjmakhaaaGreatDoor
namespace Go.Proofs.YtaoinkjjmakhaaaGreatDoor
open Go.RowKit
set_option maxRecDepth 20000
def Ks.sg (k : Ks) (n : Nat) : Nat := k.S[n]?.getD 0
section
variable {w : World} {N : Nat} {gr : Nat -> Nat} {x : Fx} {k : Ks} {c : Nat} {pt : Nat -> Nat}
theorem CoJ.sigAt (h : CoJ 0 w N gr x k c pt) {n : Nat} (hn : (k.tb n).isSome = true) : n < k.S.length /\ ∀ W, Below w.heap.size w W -> Calls Tryz.prog 63 #[.pointer (some ⟨pt n, 0, none⟩)] W fun e w' => e = .returned (.int .u64 (k.sg n)) /\ W = w' := by
 obtain ⟨t, ht⟩ := Option.isSome_iff_exists.1 hn
 obtain ⟨s, tag, m, v, q, hs, hA, hg⟩ := h.tab n t (by omega) ht
 refine ⟨(List.getElem?_eq_some_iff.1 hs).1, fun W hW => ?_⟩
 unfold Ks.sg
 rw [hs]
 exact tsig_any (hA.below hW).i
set_option maxHeartbeats 1000000 in
theorem sorted_any (h : CoJ 0 w N gr x k c pt) (hc : c <= 1000000000) (hS : k.S.length <= 1000000000) :
  Calls Tryz.prog 37 #[.pointer (some ⟨x.p, 0, none⟩)] w fun e w' => ∃ A m cc ns, e = .returned (.slice A m cc) /\ m = ns.length /\ ns.Nodup /\ (∀ n, n ∈ ns ↔ (k.tb n).isSome = true) /\ ns.length <= c /\ ns.Pairwise (fun a b => k.sg a <= k.sg b) /\ TbRow w.heap.size w' pt A ns /\ Below w.heap.size w w' := by
 have c7 := h.c7
 obtain ⟨nt, hnt, hm⟩ := h.mpt (by decide)
 have C2 := hi_ (show ∀ W, W = w.alloc (.cells #[.map (some x.mt)] 79) -> _ from fun W hW => by
  have hb : Below w.heap.size w W := by rw [hW]; exact (Below.refl _ w).alloc (Nat.le_refl _) _
  have hcell : W.cell? ⟨w.heap.size, 0, none⟩ = some (.map (some x.mt)) := by rw [hW]; exact (Boxed.new w _ _).cell
  exact sortedFunc_any w.heap.size x.mt nt k.tb pt k.sg W (by rw [hW]; simp) hcell (hm.below hb) (by omega) (fun n hn => by have := (h.sigAt hn).1; unfold okN; omega) (fun W2 h2 n hn => (h.sigAt hn).2 W2 (hb.trans (h2.mono hb.size))))
 have HB := hi_ (show Below w.heap.size w (w.alloc (.cells #[.map (some x.mt)] 79)) from (Below.refl _ w).alloc (Nat.le_refl _) _)
 have HN := hi_ hnt
 clear h hc hS hm hnt
 go_enter Tryz.func37, Tryz.ntmps37
 go_wp2_with (first
  | (go_at_call 88; refine (values_any _ _).mono ?_; rintro e w2 ⟨rfl, hw2⟩; have CS := hi_ (C2.out w2 hw2); have HW := hi_ hw2; clear C2 hw2)
  | (go_at_call 87; refine CS.out.mono ?_; rintro e w3 ⟨A, m, cc, ns, rfl, h1, h2, h3, h4, h5, h6, h7⟩; have H := hi_ (And.intro h1 (And.intro h2 (And.intro h3 (And.intro h4 (And.intro h5 (And.intro h6 h7)))))); clear h1 h2 h3 h4 h5 h6 h7))
 go_ret
 obtain ⟨h1, h2, h3, h4, h5, h6, h7⟩ := H.out
 have hW := HW.out
 have hB := HB.out
 have hN := HN.out
 rw [<- hW] at hB
 exact ⟨A, m, cc, ns, rfl, h1, h2, h3, by omega, h5, fun hp => by obtain ⟨g, a1, a2, a3, a4⟩ := h6 hp; exact ⟨g, a1, Nat.le_trans hB.size a2, a3, a4⟩, hB.trans (h7.mono hB.size)⟩
end
end Go.Proofs.YtaoinkjjmakhaaaGreatDoor
namespace Go.Proofs.YtaoinkjjmakhaaaGreatDoor
open Go.RowKit
set_option maxRecDepth 20000
theorem ids_vs {vs : List Value} {xs : List (Int × Int)} (h : HdL 2 ED vs xs) : vs = idc xs := by
 obtain ⟨ch, rfl, h4, h5, h6⟩ := h
 unfold idc
 congr 1
 apply List.ext_getElem?
 intro j
 by_cases hj : j < xs.length
 ·obtain ⟨r, hr, he⟩ := h6 j xs[j] (List.getElem?_eq_getElem hj)
  rw [hr, List.getElem?_map, List.getElem?_eq_getElem hj]
  exact congrArg some he
 ·rw [List.getElem?_eq_none (by omega), List.getElem?_eq_none (by simp; omega)]
theorem idc_append (l m : List (Int × Int)) : idc (l ++ m) = idc l ++ idc m := by simp [idc]
def Ks.at_ (k : Ks) (n : Nat) : List (Int × Int) := match k.tb n with | some t => t.ids | none => []
def Ks.idsOf (k : Ks) (l : List Nat) : List (Int × Int) := (l.map k.at_).flatten
theorem Ks.idsOf_succ (k : Ks) (l : List Nat) {j n : Nat} (h : l[j]? = some n) : k.idsOf (l.take (j + 1)) = k.idsOf (l.take j) ++ k.at_ n := by
 unfold Ks.idsOf
 rw [List.take_add_one, h]
 simp
theorem sigsL_lt (S : List Nat) (wi wo : Nat) : ∀ m n, n ∈ sigsL S wi wo m -> n < m
 | 0, n, h => absurd h List.not_mem_nil
 | m + 1, n, h => by
  unfold sigsL at h
  rcases List.mem_append.1 h with h | h
  ·exact Nat.lt_succ_of_lt (sigsL_lt S wi wo m n h)
  ·split at h
   ·rw [List.mem_singleton.1 h]; exact Nat.lt_succ_self _
   ·exact absurd h List.not_mem_nil
section
variable {w : World} {N : Nat} {gr : Nat -> Nat} {x : Fx} {k : Ks} {c : Nat} {pt : Nat -> Nat}
theorem CoJ.idsAt (h : CoJ 0 w N gr x k c pt) {n : Nat} (hn : okN n) : ∃ q, (Instr.lookup 79 (.map (some x.mt)) (.int .i64 (n : Int)) false).run Tryz.prog w = .ok (.pointer q) w /\
  Calls Tryz.prog 68 #[.pointer q] w fun e w' => ∃ A m cc, e = .returned (.slice A m cc) /\ m = (k.at_ n).length /\ IdsV (fun y => w.heap.size <= y /\ y < w'.heap.size) w' A m (k.at_ n) /\ Below w.heap.size w w' := by
 have L := h.lookT hn
 unfold Ks.at_
 cases ht : k.tb n with
 | none =>
  rw [show tbV k.tb pt n = none by unfold tbV; rw [ht]; rfl] at L
  refine ⟨none, L, (TIDs_nil w).mono ?_⟩
  rintro e w' ⟨rfl, rfl⟩
  exact ⟨none, 0, 0, rfl, rfl, ⟨[], rfl, ⟨rfl, fun _ => rfl, fun h => absurd h (Nat.lt_irrefl 0)⟩, HdL.nil _ _⟩, Below.refl _ _⟩
 | some t =>
  rw [show tbV k.tb pt n = some (.pointer (some ⟨pt n, 0, none⟩)) by unfold tbV; rw [ht]; rfl] at L
  obtain ⟨s, tag, m, v, q, hs, hA, hg⟩ := h.tab n t (by omega) ht
  refine ⟨some ⟨pt n, 0, none⟩, L, (TIDs_any hA.i (by rw [t.ids_len]; exact hA.ok.n)).mono ?_⟩
  rintro e w' ⟨A, cc, rfl, hI, hb⟩
  exact ⟨A, _, cc, rfl, rfl, hI, hb⟩
theorem CoJ.at_len (h : CoJ 0 w N gr x k c pt) (n : Nat) : (k.at_ n).length <= 1024 := by
 unfold Ks.at_
 cases ht : k.tb n with
 | none => exact Nat.zero_le _
 | some t =>
  obtain ⟨s, tag, m, v, q, hs, hA, hg⟩ := h.tab n t (by omega) ht
  show t.ids.length <= 1024
  rw [t.ids_len]
  exact hA.ok.n
theorem CoJ.idsOf_len (h : CoJ 0 w N gr x k c pt) : ∀ l : List Nat, (k.idsOf l).length <= l.length * 1024
 | [] => Nat.le_refl _
 | n :: l => by
  have h1 := h.at_len n
  have h2 := h.idsOf_len l
  show ((k.at_ n) ++ (l.map k.at_).flatten).length <= (l.length + 1) * 1024
  rw [List.length_append]
  have h2' : ((l.map k.at_).flatten).length <= l.length * 1024 := h2
  omega
theorem equery_yes (h : CoJ 0 w N gr x k c pt) (wi wo : Nat) (hwi : wi < 18446744073709551616) (hwo : wo < 18446744073709551616) (hS : k.S.length <= 5000) :
  Calls Tryz.prog 25 #[.pointer (some ⟨x.p, 0, none⟩), .int .u64 wi, .int .u64 wo] w fun e w' => ∃ A m cc ys, e = .returned (.slice A m cc) /\ m = ys.length /\ IdsV (fun y => w.heap.size <= y) w' A m ys /\ ys.Perm (k.idsOf (sigsL k.S wi wo k.S.length)) /\ ys.Pairwise (fun a b => a.1 <= b.1) /\ Below w.heap.size w w' := by
 obtain ⟨sv, ed, b, _, hG⟩ := h.gph (by decide)
 have CS := Sigs_any hG wi wo hwi hwo (by omega)
 obtain ⟨l, hl⟩ : ∃ l, l = sigsL k.S wi wo k.S.length := ⟨_, rfl⟩
 have hln : ∀ j n, l[j]? = some n -> n < k.S.length := fun j n hj => by
  rw [hl] at hj
  exact sigsL_lt k.S wi wo k.S.length n (List.mem_of_getElem? hj)
 have hll : l.length <= k.S.length := by rw [hl]; exact sigsL_len _ _ _ _
 have htot := h.idsOf_len
 rw [<- hl] at CS ⊢
 obtain ⟨ln, hln'⟩ : ∃ ln, ln = l.length := ⟨_, rfl⟩
 rw [<- hln'] at CS
 have CS := hi_ CS
 have HL := hi_ (And.intro hln (And.intro hll (And.intro htot (And.intro hS hln'))))
 have c6 := h.c6
 have H0 := hi_ h
 clear h hG hl hln hll htot hS hln'
 go_enter Tryz.func25, Tryz.ntmps25
 go_wp2_with (go_at_call 67; refine CS.out.mono ?_; rintro e w2 ⟨v2, rfl, ho2, hb2⟩; obtain ⟨LA, lc, rfl, hnc2, hcm2, hp2⟩ := own_open ho2; have HO2 := hi_ (And.intro ho2 (And.intro hp2 hb2)); clear ho2 hnc2 hcm2 hp2 hb2 c6)
 obtain ⟨hln, hll, htot, hS, hle⟩ := HL.out
 have hlen : ln <= 5000 := by omega
 clear hln hll htot hS hle
 go_loopw [7, 20] (fun ov iv wr => ∃ (j : Nat) (xs : List (Int × Int)), j <= ln /\ iv = .int .i64 j /\ xs = k.idsOf (l.take j) /\ wr.ownsRow w2.heap.size 32 2 ov xs.length (idc xs) /\ Below w2.heap.size w2 wr) (fun _ iv _ => ln - (intOf iv).toNat)
 case atStart => exact ⟨0, [], Nat.zero_le _, rfl, rfl, World.ownsRow_nil _ _ _ _, Below.refl _ _⟩
 case round =>
  obtain ⟨j, xs, hj, rfl, hxs, ho, hb⟩ := hrel
  have hbw := HO2.out.2.2.trans (hb.mono HO2.out.2.2.size)
  by_cases hjn : j < ln
  ·obtain ⟨hln, hll, htot, hS, hle⟩ := HL.out
   have hjl : j < l.length := by omega
   obtain ⟨n, hn⟩ : ∃ n, l[j]? = some n := ⟨l[j], List.getElem?_eq_getElem hjl⟩
   have hnS := hln j n hn
   have hr := H0.out.below hbw
   obtain ⟨q, LT, CI⟩ := hr.idsAt (n := n) (by unfold okN; omega)
   have c7 := hr.c7
   obtain ⟨gb, hA, hgl, hcs, _⟩ := HO2.out.2.1 (by omega)
   subst hA
   have kj : wr.cell? ⟨gb, j, none⟩ = some (.int .i64 (n : Int)) := by
    rw [show wr.cell? ⟨gb, j, none⟩ = w2.cell? ⟨gb, j, none⟩ from hb.cell (p := ⟨gb, j, none⟩) hgl, hcs j hjn]
    simp [hn]
   have hat := hr.at_len n
   have hxl : xs.length <= j * 1024 := by rw [hxs]; refine Nat.le_trans (htot _) ?_; rw [List.length_take]; exact Nat.mul_le_mul_right _ (Nat.min_le_left _ _)
   have CI := hi_ CI
   have HX := hi_ (And.intro hxs (And.intro hxl (And.intro hat hn)))
   have HO := hi_ ho
   have HB := hi_ hb
   clear hln hll htot hS hle hr hcs hbw hat hxl hn hnS hxs ho hb hjl
   go_wp2_with (first
    | (go_at_call 68; refine CI.out.mono ?_; rintro e w3 ⟨IA, im, ic, rfl, him, hI3, hb3⟩; have HI3 := hi_ (And.intro him (And.intro hI3 hb3)); clear him hI3 hb3 kj c7 LT)
    | (at_builtin; obtain ⟨vs, h1, h2, h3⟩ := HI3.out.2.1; refine wpList_appW idsTP rfl (.tmp 24) (.tmp 31) rfl w2.heap.size _ xs.length (idc xs) rfl (own_keep HO.out HI3.out.2.2) IA im ic vs rfl h2 (h3.one (fun _ _ hx => ED.one hx)) (by have := HX.out.2.1; have := HX.out.2.2.1; have := HI3.out.1; omega) (by decide) (Nat.le_trans HB.out.size HI3.out.2.2.size) ?_; intro v4 w4 ho4 hg4; have HO4 := hi_ (And.intro ho4 (And.intro hg4 (And.intro h1 h3))); clear ho4 hg4 h1 h2 h3))
   go_roundw
   case rel =>
    obtain ⟨ho4, hg4, h1, h3⟩ := HO4.out
    obtain ⟨him, _, hb3⟩ := HI3.out
    refine ⟨j + 1, xs ++ k.at_ n, hjn, by go_num, ?_, ?_, ?_⟩
    ·rw [k.idsOf_succ l HX.out.2.2.2, <- HX.out.1]
    ·rw [List.length_append, idc_append, <- him, <- ids_vs h3]
     exact ho4
    ·exact (HB.out.trans (hb3.mono HB.out.size)).grown hg4 (Nat.le_trans HB.out.size hb3.size) (fun y hy => (own_geB HO.out hy).1)
   case measure => simp [intOf]; omega
  ·obtain rfl : j = ln := by omega
   obtain ⟨hln, hll, htot, hS, hle⟩ := HL.out
   have hxl : xs.length <= 10000000 := by rw [hxs]; refine Nat.le_trans (htot _) ?_; rw [List.length_take]; omega
   obtain ⟨A, cc, hov, CSo⟩ := sortIds_any (n := xs.length) rfl wr ho hxl
   subst hov
   have CSo := hi_ CSo
   have HX := hi_ (And.intro hxs (And.intro ho (And.intro hbw (And.intro hb hle))))
   clear hln hll htot hS hle hxl hxs ho hbw hb
   go_wp2_with (go_at_call 69; refine CSo.out.mono ?_; rintro e w5 ⟨rfl, ys, hperm, hsort, hI5, hF5⟩; have H5 := hi_ (And.intro hperm (And.intro hsort (And.intro hI5 hF5))); clear hperm hsort hI5 hF5)
   go_ret
   obtain ⟨hperm, hsort, hI5, hF5⟩ := H5.out
   obtain ⟨hxs, ho, hbw, hb, hle⟩ := HX.out
   have lo : ∀ y, (Value.slice A xs.length cc).ownBlock = some y -> w2.heap.size <= y := fun y hy => (own_geB ho hy).1
   have hw2 := HO2.out.2.2.size
   exact ⟨A, xs.length, cc, ys, rfl, hperm.length_eq.symm, hI5.mono (fun y hy => by have := lo y hy; omega), by rw [hxs, hle, List.take_length] at hperm; exact hperm, hsort, hbw.trans (hF5.toBelow (fun y hy => by have := lo y hy; omega) hbw.size)⟩
end
end Go.Proofs.YtaoinkjjmakhaaaGreatDoor
namespace Go.Proofs.YtaoinkjjmakhaaaGreatDoor
open Go.RowKit
theorem SameList_yes (w : World) (A A' : Option Addr) (n c c' : Nat) (zs : List Int) (h : IRd w A n zs) (h' : IRd w A' n zs) (hn : n <= 1000000) :
  Calls Tryz.prog 51 #[.slice A n c, .slice A' n c'] w fun e w' => e = .returned (.bool true) /\ Below w.heap.size w w' := by
 have H := hi_ h
 have H' := hi_ h'
 clear h h'
 go_enter Tryz.func51, Tryz.ntmps51
 go_wp2
 go_loopw [5] (fun iv wq => ∃ j : Nat, j <= n /\ iv = .int .i64 j /\ Below w.heap.size w wq) (fun iv _ => n - (intOf iv).toNat)
 case atStart => exact ⟨0, Nat.zero_le _, rfl, Below.refl _ _⟩
 case round =>
  obtain ⟨j, hj, rfl, hB⟩ := hrel
  by_cases hjn : j < n
  ·obtain ⟨b, o, hA, _, hc⟩ := (H.out.below hB).2 (by omega)
   obtain ⟨b', o', hA', _, hc'⟩ := (H'.out.below hB).2 (by omega)
   have k0 := hc j (by rw [H.out.1]; exact hjn)
   have k1 := hc' j (by rw [H'.out.1]; exact hjn)
   obtain ⟨z, hz⟩ : ∃ z, z = zs.getD j 0 := ⟨_, rfl⟩
   rw [<- hz] at k0 k1
   have HB := hi_ hB
   clear hc hc' hz hB
   subst hA
   subst hA'
   go_wp2_with fail
   go_quiet (fail)
   go_wp2
   go_roundw
   case rel => exact ⟨j + 1, hjn, by go_num, ⟨HB.out.os, HB.out.tape, HB.out.output, HB.out.size, HB.out.block⟩⟩
   case measure => simp [intOf]; omega
  ·have HB := hi_ hB
   clear hB
   go_wp2
   go_ret
   exact ⟨rfl, HB.out⟩
end Go.Proofs.YtaoinkjjmakhaaaGreatDoor
namespace Go.Proofs.YtaoinkjjmakhaaaGreatDoor
open Go.RowKit
set_option maxRecDepth 20000
abbrev stC (GA : Option Addr) (gn gc : Nat) (FA : Option Addr) (fn fc : Nat) (EA : Option Addr) (en ec : Nat) : Array Value := #[.slice GA gn gc, .slice FA fn fc, .slice EA en ec]
structure StV (K : Nat -> Prop) (w : World) (GA : Option Addr) (gn : Nat) (FA : Option Addr) (fn : Nat) (EA : Option Addr) (en : Nat) (gs fs : List Int) (es : List En) : Prop where
 g : IRd w GA gn gs
 f : IRd w FA fn fs
 e : EntsV K w EA en es
theorem stT : RT Tryz.prog 41 3 := ⟨⟨_, Tryz.underlying41, rfl⟩, by kernel_rfl⟩
set_option maxHeartbeats 1000000 in
theorem RSameS_yes {K K' : Nat -> Prop} (GA : Option Addr) (gn gc : Nat) (FA : Option Addr) (fn fc : Nat) (EA : Option Addr) (n ec : Nat) (GA' : Option Addr) (gc' : Nat) (FA' : Option Addr) (fc' : Nat) (EA' : Option Addr) (ec' : Nat) (gs fs : List Int) (es : List En) (w : World)
  (h : StV K w GA gn FA fn EA n gs fs es) (h' : StV K' w GA' gn FA' fn EA' n gs fs es) (hgn : gn <= 1000000) (hfn : fn <= 1000000) (hn : n <= 1000000) (hps : ∀ e ∈ es, e.2.length <= 1000000) :
  Calls Tryz.prog 17 #[.agg (stC GA gn gc FA fn fc EA n ec), .agg (stC GA' gn gc' FA' fn fc' EA' n ec')] w fun e w' => e = .returned (.bool true) /\ Below w.heap.size w w' := by
 obtain ⟨w1, hw1⟩ : ∃ w1, w1 = (w.alloc (.cells (stC GA gn gc FA fn fc EA n ec) 41)).alloc (.cells (stC GA' gn gc' FA' fn fc' EA' n ec') 41) := ⟨_, rfl⟩
 have hb1 : Below w.heap.size w w1 := by rw [hw1]; exact ((Below.refl _ _).alloc (Nat.le_refl _) _).alloc (by simp) _
 have r1 : Rec 41 w1 w.heap.size (stC GA gn gc FA fn fc EA n ec) := by rw [hw1]; exact (Rec.new w _ _).under ((Below.refl _ _).alloc (Nat.le_refl _) _)
 have r2 : Rec 41 w1 (w.heap.size + 1) (stC GA' gn gc' FA' fn fc' EA' n ec') := by
  have := Rec.new (w.alloc (.cells (stC GA gn gc FA fn fc EA n ec) 41)) 41 (stC GA' gn gc' FA' fn fc' EA' n ec')
  rw [World.size_alloc] at this
  rw [hw1]; exact this
 have C1 := hi_ (SameList_yes w1 GA GA' gn gc gc' gs (h.g.below hb1) (h'.g.below hb1) hgn)
 have C2 : Hid (∀ W, Below w1.heap.size w1 W -> Calls Tryz.prog 51 #[.slice FA fn fc, .slice FA' fn fc'] W fun e w' => e = .returned (.bool true) /\ Below W.heap.size W w') := hi_ (fun W hW => SameList_yes W FA FA' fn fc fc' fs ((h.f.below hb1).below hW) ((h'.f.below hb1).below hW) hfn)
 have k0 := r1.at_ 0
 have k0' := r2.at_ 0
 have H := hi_ (And.intro h.e (And.intro h'.e hps))
 have hl := h.e.len
 have HR := hi_ (And.intro r1 (And.intro r2 hb1))
 clear h h' hb1 r1 r2 hps
 go_enter Tryz.func17, Tryz.ntmps17
 go_wp2_with (first
  | (rw [<- hw1]; clear hw1)
  | (have _t := C1; go_at_call 51; refine C1.out.mono ?_; rintro e w2 ⟨rfl, hb2⟩; have k1 := (HR.out.1.under hb2).at_ 1; have k1' := (HR.out.2.1.under hb2).at_ 1; have D2 := hi_ (C2.out w2 hb2); have HB2 := hi_ hb2; clear hb2 C1 k0 k0')
  | (have _t := D2; go_at_call 51; refine D2.out.mono ?_; rintro e w3 ⟨rfl, hb3⟩; have hb13 := HB2.out.trans (hb3.mono HB2.out.size); have k2 := (HR.out.1.under hb13).at_ 2; have k2' := (HR.out.2.1.under hb13).at_ 2; have HB3 := hi_ hb13; clear hb3 hb13 D2 k1 k1'))
 clear k2 k2'
 go_loopw [5] (fun iv wr => ∃ j : Nat, j <= n /\ iv = .int .i64 j /\ Below w1.heap.size w1 wr) (fun iv _ => n - (intOf iv).toNat)
 case atStart => exact ⟨0, Nat.zero_le _, rfl, HB3.out⟩
 case round =>
  obtain ⟨j, hj, rfl, hB⟩ := hrel
  have HBw := hi_ (HR.out.2.2.trans (hB.mono HR.out.2.2.size))
  have k2 := (HR.out.1.under hB).at_ 2
  by_cases hjn : j < n
  ·have k2' := (HR.out.2.1.under hB).at_ 2
   obtain ⟨y, hy⟩ : ∃ y, es[j]? = some y := ⟨_, List.getElem?_eq_getElem (by omega)⟩
   obtain ⟨b, o, PA, pn, pc, hA, _, hblt, h0, h1, h2, hp⟩ := H.out.1.cell hy
   obtain ⟨b', o', PA', pn', pc', hA', _, hblt', h0', h1', h2', hp'⟩ := H.out.2.1.cell hy
   subst hA hA'
   have hyl := H.out.2.2 y (List.mem_of_getElem? hy)
   obtain ⟨⟨yi, yg⟩, yp⟩ := y
   simp only at h0 h1 h2 h0' h1' h2' hp hp' hyl
   have hpn := hp.len
   have hpn' := hp'.len
   have e1 : pn' = pn := hpn'.symm.trans hpn
   subst e1
   have HX : Hid (∀ W, Below wr.heap.size wr W -> ((W.cell? ⟨w.heap.size, 2, none⟩ = some (.slice (some ⟨b, o, none⟩) n ec) /\ W.cell? ⟨w.heap.size + 1, 2, none⟩ = some (.slice (some ⟨b', o', none⟩) n ec')) /\ (W.cell? ⟨b, o + j * 3, none⟩ = some (.int .i64 yi) /\ W.cell? ⟨b, o + j * 3 + 1, none⟩ = some (.int .i64 yg) /\ W.cell? ⟨b, o + j * 3 + 2, none⟩ = some (.slice PA pn' pc)) /\ W.cell? ⟨b', o' + j * 3, none⟩ = some (.int .i64 yi) /\ W.cell? ⟨b', o' + j * 3 + 1, none⟩ = some (.int .i64 yg) /\ W.cell? ⟨b', o' + j * 3 + 2, none⟩ = some (.slice PA' pn' pc'))) := hi_ (fun W hW => by
    have hwW := HBw.out.trans (hW.mono HBw.out.size)
    exact ⟨⟨(World.cell?_of_block (hW.block _ (World.block_lt_of_cell? wr _ k2))).trans k2, (World.cell?_of_block (hW.block _ (World.block_lt_of_cell? wr _ k2'))).trans k2'⟩,
     ⟨(hwW.cell (p := ⟨b, o + j * 3, none⟩) hblt).trans h0, (hwW.cell (p := ⟨b, o + j * 3 + 1, none⟩) hblt).trans h1, (hwW.cell (p := ⟨b, o + j * 3 + 2, none⟩) hblt).trans h2⟩,
     (hwW.cell (p := ⟨b', o' + j * 3, none⟩) hblt').trans h0', (hwW.cell (p := ⟨b', o' + j * 3 + 1, none⟩) hblt').trans h1', (hwW.cell (p := ⟨b', o' + j * 3 + 2, none⟩) hblt').trans h2'⟩)
   have CP : Hid (Calls Tryz.prog 52 #[.slice PA pn' pc, .slice PA' pn' pc'] wr.drew fun e w' => e = .returned (.bool true) /\ Below wr.drew.heap.size wr.drew w') := hi_ (by
    have hwd : Below w.heap.size w wr.drew := HBw.out.drew
    exact SameParts_yes PA PA' pn' pc pc' yp wr.drew (hp.below hwd) (hp'.below hwd) (by omega))
   have s1 := HX.out wr.drew (Below.refl _ _).drew
   have HB := hi_ hB
   clear h0 h1 h2 h0' h1' h2' hp hp' hy hyl hpn hpn' k2' hblt hblt' hB
   go_upto_region 6 with fail
   clear k2
   refine wp_region_noPanic ?_
   refine wp_region_held_drew (S := fun W => ((W.cell? ⟨w.heap.size, 2, none⟩ = some (.slice (some ⟨b, o, none⟩) n ec) /\ W.cell? ⟨w.heap.size + 1, 2, none⟩ = some (.slice (some ⟨b', o', none⟩) n ec')) /\ (W.cell? ⟨b, o + j * 3, none⟩ = some (.int .i64 yi) /\ W.cell? ⟨b, o + j * 3 + 1, none⟩ = some (.int .i64 yg) /\ W.cell? ⟨b, o + j * 3 + 2, none⟩ = some (.slice PA pn' pc)) /\ W.cell? ⟨b', o' + j * 3, none⟩ = some (.int .i64 yi) /\ W.cell? ⟨b', o' + j * 3 + 1, none⟩ = some (.int .i64 yg) /\ W.cell? ⟨b', o' + j * 3 + 2, none⟩ = some (.slice PA' pn' pc'))) (by kernel_rfl) s1 (fun hHeld => ?_)
   refine tk_ 0 ⟨some 36, .fieldAddr 41 (.tmp 2) 2, 0, "ref.go:173", #[], none⟩ hHeld ?_
   simp only [Act.put, sA_, sB_, sC_]
   refine tk_ 1 ⟨some 37, .load 39 (.tmp 36), 39, "ref.go:173", #[⟨0, .data⟩], none⟩ hHeld ?_
   simp only [Act.put, sA_, sB_, sC_]
   refine tk_ 2 ⟨some 38, .move (.tmp 5), 3, "ref.go:173", #[], none⟩ hHeld ?_
   simp only [Act.put, sA_, sB_, sC_]
   refine tk_ 3 ⟨some 39, .indexAddr 39 (.tmp 37) (.tmp 38), 0, "ref.go:173", #[⟨1, .data⟩, ⟨2, .data⟩], none⟩ hHeld ?_
   simp only [Act.put, sA_, sB_, sC_]
   refine tk_ 4 ⟨some 40, .fieldAddr 95 (.tmp 39) 0, 0, "ref.go:173", #[⟨3, .data⟩], none⟩ hHeld ?_
   simp only [Act.put, sA_, sB_, sC_]
   refine tk_ 5 ⟨some 41, .load 32 (.tmp 40), 32, "ref.go:173", #[⟨4, .data⟩], none⟩ hHeld ?_
   simp only [Act.put, sA_, sB_, sC_]
   refine tk_ 6 ⟨some 42, .fieldAddr 41 (.tmp 3) 2, 0, "ref.go:173", #[], none⟩ hHeld ?_
   simp only [Act.put, sA_, sB_, sC_]
   refine tk_ 7 ⟨some 43, .load 39 (.tmp 42), 39, "ref.go:173", #[⟨6, .data⟩], none⟩ hHeld ?_
   simp only [Act.put, sA_, sB_, sC_]
   refine tk_ 8 ⟨some 44, .move (.tmp 5), 3, "ref.go:173", #[], none⟩ hHeld ?_
   simp only [Act.put, sA_, sB_, sC_]
   refine tk_ 9 ⟨some 45, .indexAddr 39 (.tmp 43) (.tmp 44), 0, "ref.go:173", #[⟨7, .data⟩, ⟨8, .data⟩], none⟩ hHeld ?_
   simp only [Act.put, sA_, sB_, sC_]
   refine tk_ 10 ⟨some 46, .fieldAddr 95 (.tmp 45) 0, 0, "ref.go:173", #[⟨9, .data⟩], none⟩ hHeld ?_
   simp only [Act.put, sA_, sB_, sC_]
   refine tk_ 11 ⟨some 47, .load 32 (.tmp 46), 32, "ref.go:173", #[⟨10, .data⟩], none⟩ hHeld ?_
   simp only [Act.put, sA_, sB_, sC_]
   refine tk_ 12 ⟨some 48, .binOp .neq 32 (.tmp 41) (.tmp 47) 32, 4, "ref.go:173", #[⟨5, .data⟩, ⟨11, .data⟩], none⟩ hHeld ?_
   simp only [Act.put, sA_, sB_, sC_]
   refine tk_ 13 ⟨some 49, .move (.tmp 48), 4, "ref.go:173", #[⟨12, .data⟩], none⟩ hHeld ?_
   simp only [Act.put, sA_, sB_, sC_]
   refine tk_ 14 ⟨some 50, .fieldAddr 41 (.tmp 2) 2, 0, "ref.go:173", #[⟨13, .guard⟩], some (13, false)⟩ hHeld ?_
   simp only [Act.put, sA_, sB_, sC_]
   refine tk_ 15 ⟨some 51, .load 39 (.tmp 50), 39, "ref.go:173", #[⟨14, .data⟩, ⟨13, .guard⟩], some (13, false)⟩ hHeld ?_
   simp only [Act.put, sA_, sB_, sC_]
   refine tk_ 16 ⟨some 52, .move (.tmp 5), 3, "ref.go:173", #[⟨13, .guard⟩], some (13, false)⟩ hHeld ?_
   simp only [Act.put, sA_, sB_, sC_]
   refine tk_ 17 ⟨some 53, .indexAddr 39 (.tmp 51) (.tmp 52), 0, "ref.go:173", #[⟨15, .data⟩, ⟨16, .data⟩, ⟨13, .guard⟩], some (13, false)⟩ hHeld ?_
   simp only [Act.put, sA_, sB_, sC_]
   refine tk_ 18 ⟨some 54, .fieldAddr 95 (.tmp 53) 1, 0, "ref.go:173", #[⟨17, .data⟩, ⟨13, .guard⟩], some (13, false)⟩ hHeld ?_
   simp only [Act.put, sA_, sB_, sC_]
   refine tk_ 19 ⟨some 55, .load 91 (.tmp 54), 91, "ref.go:173", #[⟨18, .data⟩, ⟨13, .guard⟩], some (13, false)⟩ hHeld ?_
   simp only [Act.put, sA_, sB_, sC_]
   refine tk_ 20 ⟨some 56, .fieldAddr 41 (.tmp 3) 2, 0, "ref.go:173", #[⟨13, .guard⟩], some (13, false)⟩ hHeld ?_
   simp only [Act.put, sA_, sB_, sC_]
   refine tk_ 21 ⟨some 57, .load 39 (.tmp 56), 39, "ref.go:173", #[⟨20, .data⟩, ⟨13, .guard⟩], some (13, false)⟩ hHeld ?_
   simp only [Act.put, sA_, sB_, sC_]
   refine tk_ 22 ⟨some 58, .move (.tmp 5), 3, "ref.go:173", #[⟨13, .guard⟩], some (13, false)⟩ hHeld ?_
   simp only [Act.put, sA_, sB_, sC_]
   refine tk_ 23 ⟨some 59, .indexAddr 39 (.tmp 57) (.tmp 58), 0, "ref.go:173", #[⟨21, .data⟩, ⟨22, .data⟩, ⟨13, .guard⟩], some (13, false)⟩ hHeld ?_
   simp only [Act.put, sA_, sB_, sC_]
   refine tk_ 24 ⟨some 60, .fieldAddr 95 (.tmp 59) 1, 0, "ref.go:173", #[⟨23, .data⟩, ⟨13, .guard⟩], some (13, false)⟩ hHeld ?_
   simp only [Act.put, sA_, sB_, sC_]
   refine tk_ 25 ⟨some 61, .load 91 (.tmp 60), 91, "ref.go:173", #[⟨24, .data⟩, ⟨13, .guard⟩], some (13, false)⟩ hHeld ?_
   simp only [Act.put, sA_, sB_, sC_]
   refine wpAnyH_ready (rs := [26]) (by kernel_rfl) (by simp) ?_
   refine AllReadyH.cons (o := ⟨some 62, .call { callee := .value (.func 52), args := #[.tmp 55, .tmp 61], argTypes := #[91, 91] }, 4, "ref.go:173", #[⟨19, .data⟩, ⟨25, .data⟩, ⟨13, .chain⟩, ⟨13, .guard⟩], some (13, false)⟩) rfl (fun K' hK => ?_) AllReadyH.nil
   go_simp
   go_at_call 52; refine CP.out.mono ?_; rintro e w5 ⟨rfl, hb5⟩
   have hb5' : Below wr.heap.size wr w5 := (show Below wr.heap.size wr wr.drew from (Below.refl _ _).drew).trans hb5
   have s2 := HX.out w5 hb5'
   have HB5 := hi_ hb5'
   clear hb5 hb5'
   refine hK.out _ _ s2 (fun hHeld => ?_)
   clear hK K'
   try simp only [Act.put, sA_, sB_, sC_]
   refine tk_ 27 ⟨some 63, .unOp .not 4 (.tmp 62), 4, "ref.go:173", #[⟨26, .data⟩, ⟨13, .guard⟩], some (13, false)⟩ hHeld ?_
   simp only [Act.put, sA_, sB_, sC_]
   refine tk_ 28 ⟨some 64, .pick (.tmp 49) (.const (.bool true)) (.tmp 63), 4, "ref.go:173", #[⟨13, .data⟩, ⟨27, .data⟩], none⟩ hHeld ?_
   simp only [Act.put, sA_, sB_, sC_]
   refine wpAnyH_done (by kernel_rfl) ?_ _
   refine NoPanic.normal ?_
   clear hHeld s1 s2
   go_wp2
   go_roundw
   case rel => exact ⟨j + 1, hjn, by go_num, HB.out.trans (HB5.out.mono HB.out.size)⟩
   case measure => simp [intOf]; omega
  ·go_wp2
   go_ret
   exact ⟨rfl, HBw.out⟩
end Go.Proofs.YtaoinkjjmakhaaaGreatDoor
namespace Go.Proofs.YtaoinkjjmakhaaaGreatDoor
open Go.RowKit
set_option maxRecDepth 20000
theorem ecode_any (n : Int) (w : World) : Calls Tryz.prog 16 #[.int .i64 n] w fun e w' => e = .returned (.int .i64 n) /\ w = w' := by
 go_enter Tryz.func16, Tryz.ntmps16
 go_wp2
 go_ret
 exact ⟨rfl, rfl⟩
section
variable (R : Value) (i g kk : Int) (DA : Option Addr) (dn dc : Nat) (z : Int) (w : World)
end
end Go.Proofs.YtaoinkjjmakhaaaGreatDoor
namespace Go.Proofs.YtaoinkjjmakhaaaGreatDoor
open Go.RowKit
set_option maxRecDepth 20000
theorem KRd.oneE (w : World) (s : ByteArray) (z : Int) : KRd (w.alloc (.cells #[.string s, .int .i64 z] 59)) (some ⟨w.heap.size, 0, none⟩) 1 [(s, z)] :=
 ⟨rfl, fun _ => ⟨w.heap.size, 0, rfl, by simp, fun j hj => by
  obtain rfl : j = 0 := by simp at hj; omega
  exact ⟨cell_of_row _ _ 0 _ _ _ (heap_alloc_last w _), cell_of_row _ _ 1 _ _ _ (heap_alloc_last w _)⟩⟩⟩
def liveE : List Kd := [(⟨#[97]⟩, 1)]
theorem liveE_right : (Cf.mk 2 4 3 3 liveE).Right := by decide +kernel
theorem liveE_lens : Lens liveE := fun k hk => by
 rw [List.mem_singleton.1 hk]
 decide
theorem liveE_t0 : Tb.new 1 (zsK liveE) 0 = ⟨[], []⟩ := by kernel_rfl
theorem liveE_t1 : Tb.new 1 (zsK liveE) 1 = ⟨[(0, 1)], []⟩ := by kernel_rfl
theorem liveE_take : (NS.new 3 3).take = (⟨3, 3, [0], []⟩, (0, 0), 0) := rfl
def kLive1 : Ks := ⟨⟨3, 3, [0], []⟩, [0], fun a => if a = 0 then some ⟨[], [((0, 0), [])]⟩ else none, fun j => if j = (0, 0) then some (0, 0) else none⟩
theorem live_k1 {x : Fx} (hn : x.n = 1) (hk : x.ks = liveE) : (ks0 (NS.new 3 3)).spawn x = kLive1 := by
 have e : Tb.new x.n (zsK x.ks) 0 = ⟨[], []⟩ := by rw [hn, hk]; exact liveE_t0
 unfold Ks.spawn Ks.tab
 simp only [e]
 rfl
def kLive2 : Ks := ⟨⟨3, 3, [0], []⟩, [0, 1], fun a => if a = 1 then some ⟨[(0, 1)], [((0, 0), [(0, [9])])]⟩ else none, fun j => if j = (0, 0) then some (1, 0) else none⟩
theorem live_gn : gNode kLive1.S (chg true 0 0) = ([0, 1], 1) := by kernel_rfl
theorem live_chg : chg true 0 0 = 1 := by kernel_rfl
theorem live_drop : ({ kLive1 with S := [0, 1] } : Ks).drop (0, 0) 0 0 ⟨[], [((0, 0), [])]⟩ = ⟨⟨3, 3, [0], []⟩, [0, 1], fun _ => none, fun _ => none⟩ := by
 unfold Ks.drop kLive1
 congr 1
 ·funext a
  unfold upd
  by_cases e : a = 0
  ·simp [e]
  ·simp [e]
 ·funext j
  by_cases e : j = (0, 0)
  ·simp [e]
  ·simp [e]
theorem live_k2 {x : Fx} (hn : x.n = 1) (hk : x.ks = liveE) : ({ kLive1 with S := (gNode kLive1.S (chg true 0 0)).1 } : Ks).move x (0, 0) 0 0 ⟨[], [((0, 0), [])]⟩ (gNode kLive1.S (chg true 0 0)).2 (chg true 0 0) (((⟨[], [((0, 0), [])]⟩ : Tb).rows.getD 0 noEn).2 ++ [(0, [9])]) = kLive2 := by
 have e : Tb.new x.n (zsK x.ks) 1 = ⟨[(0, 1)], []⟩ := by rw [hn, hk]; exact liveE_t1
 rw [live_gn, live_chg]
 unfold Ks.move
 rw [live_drop]
 unfold Ks.put Ks.tab kLive2
 simp only [Option.getD_none, e]
 congr 1
theorem live_ids : kLive2.idsOf (sigsL kLive2.S 1 0 kLive2.S.length) = [(0, 0)] := by kernel_rfl
theorem TabAt.N {w : World} (h : TabAt w) {N : Nat} (hN : w.heap.size <= N) : TabN N w := ⟨Nat.lt_of_lt_of_le (World.block_lt_of_cell? w _ (h 0 (by decide))) hN, h⟩
set_option maxHeartbeats 1000000 in
theorem elive_any (w : World) (hT : TabAt w) : Calls Tryz.prog 8 #[] w fun e w' => e = .returned (.bool true) /\ Below w.heap.size w w' := by
 obtain ⟨w1, hw1⟩ : ∃ w1, w1 = w.alloc (.cells #[.string ⟨#[97]⟩, .int .i64 1] 59) := ⟨_, rfl⟩
 have hb1 : Below w.heap.size w w1 := by rw [hw1]; exact (Below.refl _ _).alloc (Nat.le_refl _) _
 have hK : KRd w1 (some ⟨w.heap.size, 0, none⟩) 1 liveE := by rw [hw1]; exact KRd.oneE w _ _
 have CN := hi_ (enew_yes 2 4 3 3 (some ⟨w.heap.size, 0, none⟩) 1 1 liveE w1 hK (by decide) liveE_lens liveE_right)
 have HB1 := hi_ (And.intro hb1 (hT.below hb1))
 clear hK hb1 hT
 go_enter Tryz.func8, Tryz.ntmps8
 go_upto_region 4 with (first
  | (rw [<- hw1]; clear hw1)
  | (go_at_call 9; refine CN.out.mono ?_; rintro e w2 ⟨x, gr, rfl, hx, hC, hb2⟩; have H2 := hi_ (And.intro hx (And.intro hC hb2)); clear hx hC hb2))
 obtain ⟨hx, hC, hb2⟩ := H2.out
 have hT2 : TabN w1.heap.size w2 := (HB1.out.2.N (Nat.le_refl _)).low hb2
 have CS := espawn_yes hC hT2 (by decide) (by rw [hx.n]; decide) (by decide) (by decide) (by rw [show (ks0 (NS.new 3 3)).ns = NS.new 3 3 from rfl, liveE_take]) (by rw [show (ks0 (NS.new 3 3)).ns = NS.new 3 3 from rfl, liveE_take]; exact ⟨by decide, by decide⟩)
 rw [live_k1 hx.n hx.ks, show (ks0 (NS.new 3 3)).ns = NS.new 3 3 from rfl, liveE_take] at CS
 simp only at CS
 have CS := hi_ CS
 have HT2 := hi_ hT2
 clear hx hC hb2 hT2 CN
 go_upto_region 5 with (first
  | (go_at_call 23; refine CS.out.mono ?_; rintro e w3 ⟨rfl, gr3, pt3, h3, hG3⟩; obtain ⟨w4, hw4⟩ : ∃ w4, w4 = w3.alloc (.cells #[.int .i64 0, .int .i64 0] 32) := ⟨_, rfl⟩; have R4 := hi_ (show Rec 32 w4 w3.heap.size #[.int .i64 0, .int .i64 0] by rw [hw4]; exact Rec.new w3 _ _); have HB4 := hi_ (show Below w3.heap.size w3 w4 by rw [hw4]; exact (Below.refl _ _).alloc (Nat.le_refl _) _); have H3 := hi_ (And.intro h3 hG3); clear h3 hG3)
  | (rw [<- hw4]; clear hw4)
  | ((with_reducible refine wpList_stP rfl (.tmp 2) (.tmp 15) rfl rfl rfl R4.out ?_); intro w5 hR5 hF5; have HR5 := hi_ (And.intro hR5 hF5); clear hR5 hF5))
 obtain ⟨hx, hC, hb2⟩ := H2.out
 obtain ⟨h3, hG3⟩ := H3.out
 obtain ⟨hR5, hF5⟩ := HR5.out
 have hb5 : Below w3.heap.size w3 w5 := HB4.out.trans (hF5.toBelow (fun y hy => by rw [show y = w3.heap.size from hy]; exact Nat.le_refl _) HB4.out.size)
 obtain ⟨w6, hw6⟩ : ∃ w6, w6 = w5.alloc (.cells #[.int .u8 9] 5) := ⟨_, rfl⟩
 have hb6 : Below w5.heap.size w5 w6 := by rw [hw6]; exact (Below.refl _ _).alloc (Nat.le_refl _) _
 have h5 := h3.below hb5
 have h6 := h5.below hb6
 have hG6 : TGo w2 gr w6 gr3 := (hG3.trans (TGo.ofBelow hb5)).trans (TGo.ofBelow hb6)
 have hD : VB (fun y => gr3 y = 0) w6 (.slice (some ⟨w5.heap.size, 0, none⟩) 1 1) [9] := ⟨_, _, _, rfl, by rw [hw6]; exact Rd.new w5 5 [9] (0, 0), fun b o e _ => by
  injection e with e
  injection e with e1 e2
  subst e1
  exact ⟨Classical.byContradiction fun hh => by have := h5.dom _ hh; omega, by rw [hw6]; simp⟩⟩
 have hT6 : TabN w1.heap.size w6 := HT2.out.go hC hG6
 have CST := eset_lacks h6 (i := 0) (g := 0) ⟨by decide, by decide⟩ (n := 0) (r := 0) (t := ⟨[], [((0, 0), [])]⟩) rfl rfl (by unfold okN; decide) (kk := 0) (by rw [hx.n]; decide) hT6 (by decide) (by decide) ⟨by decide, by decide⟩ (by decide) (some ⟨w5.heap.size, 0, none⟩) 1 1 (by rw [hx.ks]; rfl) hD (s0 := 0) rfl (by decide) (by rw [live_chg]; decide) (by rw [live_chg, hx.n]; kernel_rfl)
 rw [live_k2 hx.n hx.ks] at CST
 have CST := hi_ CST
 have HD6 := hi_ (And.intro h6 (And.intro hG6 (And.intro (hR5.under hb6) h5)))
 have k0 := hR5.at_ 0
 have k1 := hR5.at_ 1
 clear hx hC hb2 h3 hG3 hR5 hF5 hb5 hb6 h5 h6 hG6 hD hT6 CS R4 HB4
 go_upto_region 6 with (first
  | (rw [<- hw6]; clear hw6)
  | (go_at_call 24; refine CST.out.mono ?_; rintro e w7 ⟨rfl, gr7, pt7, h7, hG7⟩; have H7 := hi_ (And.intro h7 hG7); clear h7 hG7))
 have CQ := equery_yes H7.out.1 1 0 (by decide) (by decide) (by decide)
 rw [live_ids] at CQ
 have CQ := hi_ CQ
 clear k0 k1 CST
 go_upto_region 7 with (go_at_call 25; refine CQ.out.mono ?_; rintro e w8 ⟨QA, qm, qc, ys, rfl, hqm, hI8, hper, _, hb8⟩; have HQ8 := hi_ (And.intro hqm (And.intro hI8 (And.intro hper hb8))); clear hqm hI8 hper hb8)
 obtain ⟨hqm, hI8, hper, hb8⟩ := HQ8.out
 have hy : ys = [(0, 0)] := List.perm_singleton.1 hper
 subst hy
 have hqm : qm = 1 := hqm
 subst hqm
 obtain ⟨qb, qo, hQA, _, q0, q1⟩ := hI8.cell (j := 0) (x := (0, 0)) rfl
 subst hQA
 obtain ⟨h6, hG6, r6, h5⟩ := HD6.out
 obtain ⟨h7, hG7⟩ := H7.out
 have hz : gr3 w3.heap.size = 0 := Classical.byContradiction fun hh => by have := H3.out.1.dom _ hh; omega
 have r8 := (r6.tgo hG7 hz).under hb8
 have m0 := r8.at_ 0
 have m1 := r8.at_ 1
 have hBw : Below w.heap.size w w8 := by
  have hN := H2.out.2.1.Nle
  have h1 := HB1.out.1
  have h2 := H2.out.2.2
  have h12 := h1.trans (h2.mono h1.size)
  have h27 : Below w1.heap.size w2 w7 := (hG6.trans hG7).toBelow H2.out.2.1.lo hN
  have h17 := h12.trans (h27.mono h1.size)
  exact h17.trans (hb8.mono h17.size)
 have HBw := hi_ hBw
 clear hI8 hper hb8 h6 hG6 r6 h5 h7 hG7 hz r8 hBw HQ8 CQ
 simp only [Nat.zero_mul, Nat.add_zero] at q0 q1
 clear hqm
 have s8 : (w8.drew.cell? ⟨qb, qo, none⟩ = some (.int .i64 0) /\ w8.drew.cell? ⟨qb, qo + 1, none⟩ = some (.int .i64 0)) /\ w8.drew.cell? ⟨w3.heap.size, 0, none⟩ = some (.int .i64 0) /\ w8.drew.cell? ⟨w3.heap.size, 1, none⟩ = some (.int .i64 0) := ⟨⟨q0, q1⟩, m0, m1⟩
 refine wp_region_noPanic ?_
 refine wp_region_held_drew (S := fun W => (W.cell? ⟨qb, qo, none⟩ = some (.int .i64 0) /\ W.cell? ⟨qb, qo + 1, none⟩ = some (.int .i64 0)) /\ W.cell? ⟨w3.heap.size, 0, none⟩ = some (.int .i64 0) /\ W.cell? ⟨w3.heap.size, 1, none⟩ = some (.int .i64 0)) (by kernel_rfl) s8 (fun hHeld => ?_)
 refine tk_ 0 ⟨some 23, .move (.tmp 3), 47, "law.go:24", #[], none⟩ hHeld ?_
 simp only [Act.put, sA_, sB_, sC_]
 refine wpAnyH_ready (rs := [1]) (by kernel_rfl) (by simp) ?_
 refine AllReadyH.cons (o := ⟨some 24, .call { callee := .value (.func 16), args := #[.tmp 23], argTypes := #[47] }, 3, "law.go:24", #[⟨0, .data⟩], none⟩) rfl (fun K' hK => ?_) AllReadyH.nil
 go_simp
 go_at_call 16; refine (ecode_any _ _).mono ?_; rintro e w' ⟨rfl, rfl⟩
 refine hK.out _ _ s8 (fun hHeld => ?_)
 clear hK K'
 try simp only [Act.put, sA_, sB_, sC_]
 refine tk_ 2 ⟨some 25, .binOp .eql 3 (.tmp 24) (.const (.int .i64 0)) 3, 4, "law.go:24", #[⟨1, .data⟩], none⟩ hHeld ?_
 simp only [Act.put, sA_, sB_, sC_]
 refine tk_ 3 ⟨some 26, .move (.tmp 25), 4, "law.go:24", #[⟨2, .data⟩, ⟨1, .chain⟩], none⟩ hHeld ?_
 simp only [Act.put, sA_, sB_, sC_]
 refine tk_ 4 ⟨some 27, .move (.tmp 4), 47, "law.go:24", #[⟨3, .guard⟩], some (3, true)⟩ hHeld ?_
 simp only [Act.put, sA_, sB_, sC_]
 refine wpAnyH_ready (rs := [5]) (by kernel_rfl) (by simp) ?_
 refine AllReadyH.cons (o := ⟨some 28, .call { callee := .value (.func 16), args := #[.tmp 27], argTypes := #[47] }, 3, "law.go:24", #[⟨4, .data⟩, ⟨3, .chain⟩, ⟨3, .guard⟩], some (3, true)⟩) rfl (fun K' hK => ?_) AllReadyH.nil
 go_simp
 go_at_call 16; refine (ecode_any _ _).mono ?_; rintro e w' ⟨rfl, rfl⟩
 refine hK.out _ _ s8 (fun hHeld => ?_)
 clear hK K'
 try simp only [Act.put, sA_, sB_, sC_]
 refine tk_ 6 ⟨some 29, .binOp .eql 3 (.tmp 28) (.const (.int .i64 0)) 3, 4, "law.go:24", #[⟨5, .data⟩, ⟨3, .guard⟩], some (3, true)⟩ hHeld ?_
 simp only [Act.put, sA_, sB_, sC_]
 refine tk_ 7 ⟨some 30, .pick (.tmp 26) (.tmp 29) (.const (.bool false)), 4, "law.go:24", #[⟨3, .data⟩, ⟨6, .data⟩], none⟩ hHeld ?_
 simp only [Act.put, sA_, sB_, sC_]
 refine tk_ 8 ⟨some 31, .move (.tmp 30), 4, "law.go:24", #[⟨7, .data⟩, ⟨5, .chain⟩], none⟩ hHeld ?_
 simp only [Act.put, sA_, sB_, sC_]
 refine tk_ 9 ⟨some 32, .move (.tmp 5), 66, "law.go:24", #[⟨8, .guard⟩], some (8, true)⟩ hHeld ?_
 simp only [Act.put, sA_, sB_, sC_]
 refine tk_ 10 ⟨some 33, .call { callee := .builtin .len, args := #[.tmp 32], argTypes := #[66] }, 3, "law.go:24", #[⟨9, .data⟩, ⟨8, .guard⟩], some (8, true)⟩ hHeld ?_
 simp only [Act.put, sA_, sB_, sC_]
 refine tk_ 11 ⟨some 34, .binOp .eql 3 (.tmp 33) (.const (.int .i64 1)) 3, 4, "law.go:24", #[⟨10, .data⟩, ⟨8, .guard⟩], some (8, true)⟩ hHeld ?_
 simp only [Act.put, sA_, sB_, sC_]
 refine tk_ 12 ⟨some 35, .pick (.tmp 31) (.tmp 34) (.const (.bool false)), 4, "law.go:24", #[⟨8, .data⟩, ⟨11, .data⟩], none⟩ hHeld ?_
 simp only [Act.put, sA_, sB_, sC_]
 refine tk_ 13 ⟨some 36, .move (.tmp 35), 4, "law.go:24", #[⟨12, .data⟩, ⟨8, .chain⟩], none⟩ hHeld ?_
 simp only [Act.put, sA_, sB_, sC_]
 refine tk_ 14 ⟨some 37, .move (.tmp 5), 66, "law.go:24", #[⟨13, .guard⟩], some (13, true)⟩ hHeld ?_
 simp only [Act.put, sA_, sB_, sC_]
 refine tk_ 15 ⟨some 38, .indexAddr 66 (.tmp 37) (.const (.int .i64 0)), 0, "law.go:24", #[⟨14, .data⟩, ⟨13, .guard⟩], some (13, true)⟩ hHeld ?_
 simp only [Act.put, sA_, sB_, sC_]
 refine tk_ 16 ⟨some 39, .load 32 (.tmp 38), 32, "law.go:24", #[⟨15, .data⟩, ⟨13, .guard⟩], some (13, true)⟩ hHeld ?_
 simp only [Act.put, sA_, sB_, sC_]
 refine tk_ 17 ⟨some 40, .load 32 (.tmp 2), 32, "law.go:24", #[⟨13, .guard⟩], some (13, true)⟩ hHeld ?_
 simp only [Act.put, sA_, sB_, sC_]
 refine tk_ 18 ⟨some 41, .binOp .eql 32 (.tmp 39) (.tmp 40) 32, 4, "law.go:24", #[⟨16, .data⟩, ⟨17, .data⟩, ⟨13, .guard⟩], some (13, true)⟩ hHeld ?_
 simp only [Act.put, sA_, sB_, sC_]
 refine tk_ 19 ⟨some 42, .pick (.tmp 36) (.tmp 41) (.const (.bool false)), 4, "law.go:24", #[⟨13, .data⟩, ⟨18, .data⟩], none⟩ hHeld ?_
 simp only [Act.put, sA_, sB_, sC_]
 refine tk_ 20 ⟨some 0, .assign (.tmp 42), 4, "law.go:24", #[⟨19, .data⟩, ⟨13, .chain⟩, ⟨0, .phase⟩, ⟨1, .phase⟩, ⟨2, .phase⟩, ⟨3, .phase⟩, ⟨4, .phase⟩, ⟨5, .phase⟩, ⟨6, .phase⟩, ⟨7, .phase⟩, ⟨8, .phase⟩, ⟨9, .phase⟩, ⟨10, .phase⟩, ⟨11, .phase⟩, ⟨12, .phase⟩, ⟨13, .phase⟩, ⟨14, .phase⟩, ⟨15, .phase⟩, ⟨16, .phase⟩, ⟨17, .phase⟩, ⟨18, .phase⟩, ⟨19, .phase⟩], none⟩ hHeld ?_
 simp only [Act.put, List.setIfInBounds_toArray, List.set_cons_zero]
 refine wpAnyH_done (by kernel_rfl) ?_ _
 refine NoPanic.normal ?_
 clear hHeld s8
 go_wp2
 go_ret
 exact ⟨rfl, HBw.out.drew⟩
end Go.Proofs.YtaoinkjjmakhaaaGreatDoor
namespace Go.Proofs.YtaoinkjjmakhaaaGreatDoor
open Go.RowKit Go.ChangeShapes Go.WideShapes Go.Deep Go.Joins
set_option maxRecDepth 20000
section
variable {H : Type} {enc : TypeId × Value -> H} {w : World} {base : Nat} {held : Bool}
theorem elems_atK {P : Program} {t e : TypeId} {fuel : Nat} {cs : List Value} {x : DataW H × List MemPlace} (ht : P.underlying t = some (.slice e)) (h : DataW.trod enc P w base (fun _ => true) held fuel t cs = some x) :
  cs = [.slice none 0 0] \/ ∃ (a : Addr) (len cap : Nat), cs = [.slice (some a) len cap] /\ len <= cap /\ cap <= maxLen /\
   ∀ i, i < len -> ∃ cs' n y, (∀ j, j < P.cellsOf e -> w.cell? ((a.add (i * P.cellsOf e)).add j) = cs'[j]?) /\ DataW.trod enc P w base (fun _ => true) held n e cs' = some y := by
 rcases open_slice ht h with ⟨h0, _⟩ | ⟨a, len, cap, m, n, D, Pl, hcs, _, hl, hm, hmm, _, hi⟩
 ·exact .inl h0
 ·refine .inr ⟨a, len, cap, hcs, hl, hm, fun i him => ?_⟩
  have hmc : m = cap := by simpa using hmm
  obtain ⟨cs', hc, ht'⟩ := hi i (by omega)
  obtain ⟨_, _, hat⟩ := World.cells?_some hc
  exact ⟨cs', n, _, hat, ht'⟩
theorem open_comp {n : Nat} {cs : List Value} {y : DataW H × List MemPlace} (h : DataW.trod enc Tryz.prog w base (fun _ => true) held n 59 cs = some y) : ∃ k : Kd, cs = [.string k.1, .int .i64 k.2] /\ k.1.size <= maxLen := by
 obtain ⟨y0, y1, n1, _, hl, h0, h1⟩ := trod_struct2 Tryz.underlying59 h
 have hc2 : Tryz.prog.cellsOf 59 = 2 := by kernel_rfl
 rw [hc2] at hl
 obtain ⟨v0, v1, rfl⟩ : ∃ a b, cs = [a, b] := by
  match cs, hl with
  | [a, b], _ => exact ⟨a, b, rfl⟩
 have hs1 : Tryz.prog.cellsOf 9 = 1 := by kernel_rfl
 have hn1 : Tryz.prog.cellsOf 3 = 1 := by kernel_rfl
 have g0 : DataW.trod enc Tryz.prog w base (fun _ => true) held n1 9 [v0] = some y0 := by
  have h := h0
  change DataW.trod enc Tryz.prog w base (fun _ => true) held _ 9 (([v0, v1].drop 0).take (Tryz.prog.cellsOf 9)) = _ at h
  rw [hs1] at h
  exact h
 have g1 : DataW.trod enc Tryz.prog w base (fun _ => true) held n1 3 [v1] = some y1 := by
  have h := h1
  change DataW.trod enc Tryz.prog w base (fun _ => true) held _ 3 (([v0, v1].drop 1).take (Tryz.prog.cellsOf 3)) = _ at h
  rw [hn1] at h
  exact h
 obtain ⟨s, hs, _, hsz⟩ := DataW.trod_string Tryz.underlying9 g0
 obtain ⟨z, hz, _⟩ := DataW.trod_int Tryz.underlying3 g1
 simp only [List.cons.injEq, and_true] at hs hz
 subst hs hz
 exact ⟨(s, z), rfl, hsz⟩
theorem open_comps {fuel : Nat} {cs : List Value} {x : DataW H × List MemPlace} (h : DataW.trod enc Tryz.prog w base (fun _ => true) held fuel 22 cs = some x) :
  ∃ A n c ks, cs = [.slice A n c] /\ KRd w A n ks /\ Lens ks /\ n <= c /\ c <= maxLen := by
 rcases elems_atK Tryz.underlying22 h with h0 | ⟨a, len, cap, hcs, hl, hm, hi⟩
 ·exact ⟨none, 0, 0, [], h0, KRd.nil _ _, fun k hk => (by cases hk), Nat.le_refl _, Nat.zero_le _⟩
 have h2 : Tryz.prog.cellsOf 59 = 2 := by kernel_rfl
 rw [h2] at hi
 have key : ∀ i, ∃ k : Kd, i < len -> (w.cell? ((a.add (i * 2)).add 0) = some (.string k.1) /\ w.cell? ((a.add (i * 2)).add 1) = some (.int .i64 k.2)) /\ k.1.size <= maxLen := fun i => by
  by_cases hil : i < len
  ·obtain ⟨cs', n, y, hc, ht⟩ := hi i hil
   obtain ⟨k, rfl, hk⟩ := open_comp ht
   exact ⟨k, fun _ => ⟨⟨hc 0 (by decide), hc 1 (by decide)⟩, hk⟩⟩
  ·exact ⟨(.empty, 0), fun h => absurd h hil⟩
 obtain ⟨F, hF⟩ := Classical.axiomOfChoice key
 refine ⟨some a, len, cap, (List.range len).map F, hcs, ⟨by simp, fun hpos => ?_⟩, fun k hk => ?_, hl, hm⟩
 ·obtain ⟨b, off, spot⟩ := a
  have hs := (hF 0 hpos).1.1
  have hspot : spot = none := by simpa [Addr.add] using World.cell?_spot hs
  subst hspot
  refine ⟨b, off, rfl, by simpa [Addr.add] using World.block_lt_of_cell? w _ hs, fun j hj => ?_⟩
  have hj' : j < len := by simpa using hj
  obtain ⟨⟨c0, c1⟩, _⟩ := hF j hj'
  rw [Addr.add_lit, Addr.add_lit] at c0 c1
  simp only [List.getElem_map, List.getElem_range]
  exact ⟨c0, c1⟩
 ·obtain ⟨i, hi', rfl⟩ := List.mem_map.1 hk
  have := (hF i (List.mem_range.1 hi')).2
  unfold maxLen at this
  omega
theorem array5 {α : Type} {cs : Array α} (h : cs.size = 5) : ∃ c0 c1 c2 c3 c4, cs = #[c0, c1, c2, c3, c4] := by
 obtain ⟨l⟩ := cs
 match l, h with
 | [c0, c1, c2, c3, c4], _ => exact ⟨c0, c1, c2, c3, c4, rfl⟩
theorem open_conf {r : Reach} {b0 : Nat} {v : Value} {d : DataW H} {p : List MemPlace} (hv : Value.okWide Tryz.prog w r b0 24 v) (h : DataW.Trod enc Tryz.prog w base (fun _ => true) held 24 v d p) :
  ∃ (lg pg en gn : Int) (A : Option Addr) (n c : Nat) (ks : List Kd), v = .agg #[.int .i64 lg, .int .i64 pg, .int .i64 en, .int .i64 gn, .slice A n c] /\ KRd w A n ks /\ Lens ks /\ n <= c /\ c <= maxLen := by
 obtain ⟨cs, rfl, hsz⟩ := okWide_struct Tryz.underlying24 hv
 have hc5 : Tryz.prog.cellsOf 24 = 5 := by kernel_rfl
 obtain ⟨c0, c1, c2, c3, c4, rfl⟩ := array5 (hsz.trans hc5)
 obtain ⟨fuel, hf⟩ := h
 obtain ⟨xs, n, _, _, hl, hxl, hg⟩ := DataW.trod_struct Tryz.underlying24 hf
 have hn1 : Tryz.prog.cellsOf 3 = 1 := by kernel_rfl
 have hs1 : Tryz.prog.cellsOf 22 = 1 := by kernel_rfl
 have hx : xs.length = 5 := hxl
 have e0 := hg 0 _ rfl
 have e1 := hg 1 _ rfl
 have e2 := hg 2 _ rfl
 have e3 := hg 3 _ rfl
 have e4 := hg 4 _ rfl
 rw [List.getElem?_eq_getElem (by omega)] at e0 e1 e2 e3 e4
 have f0 : DataW.trod enc Tryz.prog w base (fun _ => true) held n 3 [c0] = some xs[0] := by
  have h := e0
  change DataW.trod enc Tryz.prog w base (fun _ => true) held _ 3 (([c0, c1, c2, c3, c4].drop 0).take (Tryz.prog.cellsOf 3)) = _ at h
  rw [hn1] at h
  exact h
 have f1 : DataW.trod enc Tryz.prog w base (fun _ => true) held n 3 [c1] = some xs[1] := by
  have h := e1
  change DataW.trod enc Tryz.prog w base (fun _ => true) held _ 3 (([c0, c1, c2, c3, c4].drop 1).take (Tryz.prog.cellsOf 3)) = _ at h
  rw [hn1] at h
  exact h
 have f2 : DataW.trod enc Tryz.prog w base (fun _ => true) held n 3 [c2] = some xs[2] := by
  have h := e2
  change DataW.trod enc Tryz.prog w base (fun _ => true) held _ 3 (([c0, c1, c2, c3, c4].drop 2).take (Tryz.prog.cellsOf 3)) = _ at h
  rw [hn1] at h
  exact h
 have f3 : DataW.trod enc Tryz.prog w base (fun _ => true) held n 3 [c3] = some xs[3] := by
  have h := e3
  change DataW.trod enc Tryz.prog w base (fun _ => true) held _ 3 (([c0, c1, c2, c3, c4].drop 3).take (Tryz.prog.cellsOf 3)) = _ at h
  rw [hn1] at h
  exact h
 have f4 : DataW.trod enc Tryz.prog w base (fun _ => true) held n 22 [c4] = some xs[4] := by
  have h := e4
  change DataW.trod enc Tryz.prog w base (fun _ => true) held _ 22 (([c0, c1, c2, c3, c4].drop 4).take (Tryz.prog.cellsOf 22)) = _ at h
  rw [hs1] at h
  exact h
 obtain ⟨lg, q0, _⟩ := DataW.trod_int Tryz.underlying3 f0
 obtain ⟨pg, q1, _⟩ := DataW.trod_int Tryz.underlying3 f1
 obtain ⟨en, q2, _⟩ := DataW.trod_int Tryz.underlying3 f2
 obtain ⟨gn, q3, _⟩ := DataW.trod_int Tryz.underlying3 f3
 obtain ⟨A, m, c, ks, q4, hK, hL, h1, h2⟩ := open_comps f4
 simp only [List.cons.injEq, and_true] at q0 q1 q2 q3 q4
 subst q0 q1 q2 q3 q4
 exact ⟨lg, pg, en, gn, A, m, c, ks, rfl, hK, hL, h1, h2⟩
end
end Go.Proofs.YtaoinkjjmakhaaaGreatDoor
namespace Go.Proofs.YtaoinkjjmakhaaaGreatDoor
open Go.RowKit Go.ChangeShapes Go.WideShapes Go.Deep Go.Joins
set_option maxRecDepth 20000
section
variable {H : Type} {enc : TypeId × Value -> H} {w : World} {base : Nat} {held : Bool}
end
end Go.Proofs.YtaoinkjjmakhaaaGreatDoor
namespace Go.Proofs.YtaoinkjjmakhaaaGreatDoor
open Go.RowKit
set_option linter.unusedVariables false
set_option maxRecDepth 20000
theorem below_drewNc (w : World) (n : Nat) : Below w.heap.size w (w.drewN n) := by
 induction n with
 | zero => exact Below.refl _ _
 | succ n ih => exact ih.drew
section
variable (lg pg en gn : Int) (A : Option Addr) (n cap : Nat) (ks : List Kd) (w : World)
end
end Go.Proofs.YtaoinkjjmakhaaaGreatDoor
namespace Go.Proofs.YtaoinkjjmakhaaaGreatDoor
open Go.RowKit
set_option maxRecDepth 20000
abbrev stZ : Array Value := #[.slice none 0 0, .slice none 0 0, .slice none 0 0]
theorem state_start (w : World) : ∃ w1, w1 = w.alloc (.cells stZ 41) /\ Below w.heap.size w w1 /\ Rec 41 w1 w.heap.size stZ := ⟨_, rfl, (Below.refl _ _).alloc (Nat.le_refl _) _, Rec.new w _ _⟩
theorem wpList_stSt {ops : Array Oper} {rest : List Oper} {o : Oper} {a : Act} {w : World} {Q : Exit -> Act -> World -> Prop} {g : Nat} {cs : Array Value} (GA : Option Addr) (gn gc : Nat) (FA : Option Addr) (fn fc : Nat) (EA : Option Addr) (en ec : Nat) (hn : cs.size = 3) (hgd : Region.wanted o (yielded ops a.tmps) = true) (x y : Operand) (ho : o.op = .store 41 x y)
  (hx : a.eval x = .pointer (some ⟨g, 0, none⟩)) (hy : a.eval y = .agg (stC GA gn gc FA fn fc EA en ec)) (h : Rec 41 w g cs)
  (kk : ∀ w', Rec 41 w' g (stC GA gn gc FA fn fc EA en ec) -> Fr (· = g) w w' -> wpList Tryz.prog ops Q rest (a.put o.dst undef) w') : wpList Tryz.prog ops Q (o :: rest) a w :=
 wpList_stS stT hn rfl (by simp [Value.oneCell']) hgd x y ho hx hy h kk
end Go.Proofs.YtaoinkjjmakhaaaGreatDoor
