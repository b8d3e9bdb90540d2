/- The contracts of PutText and the reference's Text. -/
import Derived.Test.YtdaenkfkiijlkaaLe3
import Derived.Test.YtdaenkfkiijlkaaLe4s
namespace Go.Proofs.Ytdaenkfkiijlkaa
open Go.RowKit

theorem Text_any (s : ByteArray) (w : World) (hs : s.size ≤ 65535) :
    Calls Try.prog 34 #[.string s] w fun e w' => ∃ v, e = .returned v ∧ w'.ownsRow w.heap.size 5 1 v (2 + s.size) (cells (numB 2 s.size ++ s.data.toList)) ∧ Below w.heap.size w w' := by
  have hcv := fun W => run_bytes_of_string (P := Try.prog) W 9 35 5 s Try.underlying9 Try.underlying35 Try.underlying5
  go_enter Try.func34, Try.ntmps34
  go_wp2_with (first
    | (go_at_call 33; refine (Num_any _ _ _).mono ?_; rintro e w1 ⟨v1, rfl, hown1, hb1⟩)
    | (at_builtin; refine wpList_app _ bytesT rfl (.tmp 10) (.tmp 12) rfl w.heap.size v1 2 _ rfl (hown1.alloc _).drew _ s.size _ _ rfl (Rd.ofString w1 _ s _ _).drew (by omega) (by have := hb1.size; simp; omega) ?_; intro v2 w2 hown2 hb2))
  go_ret
  exact ⟨_, rfl, by rw [cells_append]; exact hown2, ((hb1.alloc hb1.size _).drew).trans hb2⟩

theorem PutText_any (A : Option Addr) (n c : Nat) (l : List UInt8) (s : ByteArray) (w : World) (hr : Rd w A n l) (hn : n ≤ 1073741824) (hs : s.size ≤ 65535) :
    Calls Try.prog 32 #[.slice A n c, .string s] w fun e w' => ∃ v, e = .returned v ∧ w'.ownsRow w.heap.size 5 1 v (n + 2 + s.size) (cells (l ++ (numB 2 s.size ++ s.data.toList))) ∧ Below w.heap.size w w' := by
  go_enter Try.func32, Try.ntmps32
  go_wp2_with (first
    | (go_at_call 43; refine (roomy_any A n c l _ _ hr (by omega) (by omega) (by omega)).mono ?_; rintro e w1 ⟨v1, rfl, hown1, hb1⟩)
    | (go_at_call 42; refine (addNum_two w.heap.size v1 n (cells l) _ _ hb1.size hown1 (by omega)).mono ?_; rintro e w2 ⟨v2, rfl, hown2, hb2⟩)
    | (at_builtin; refine wpList_apps _ bytesT Try.underlying9 rfl (.tmp 17) (.tmp 18) rfl w.heap.size v2 (n + 2) _ rfl hown2 s rfl (by omega) (hb1.trans hb2).size ?_; intro v3 w3 hown3 hb3))
  go_ret
  exact ⟨_, rfl, by simpa [cells_append] using hown3, (hb1.trans hb2).trans hb3⟩
end Go.Proofs.Ytdaenkfkiijlkaa
