/-
  Contract of the program's CreditsNew. No condition but lengths below 2^40.
-/
import Derived.Test.YtgeihcbiahnnaaaCeE
import Derived.Test.YtgeihcbiahnnaaaCdK
namespace Go.Proofs.Ytgeihcbiahnnaaa
open Go.RowKit
set_option linter.unusedVariables false
set_option linter.unusedSimpArgs false

set_option maxHeartbeats 4000000 in
theorem CreditsNew_impl {A : Option Addr} {n c : Nat} {fr : List Int} (s : Int) (w : World) (hr : RdI w w.heap.size A n fr) (hn : n < 1099511627776) :
    Calls Try.prog 11 #[.slice A n c, .int .i64 s] w (CrPost2 (crNew fr s) w) := by
  obtain ⟨W, hW⟩ : ∃ W, w.alloc (.cells #[.slice none 0 0, .slice none 0 0] 25) = W := ⟨_, rfl⟩
  have hT := hid (show One0 w W by rw [← hW]; exact One0.new w)
  have hR := hid (show RdI W w.heap.size A n fr by rw [← hW]; exact Reads.alloc hr (Nat.le_refl _) _)
  have hl := hid hr.len
  replace hW := hid hW
  clear hr
  cases hf : frB fr with
  | false =>
    have hno : Hid (crNew fr s = (cr0, false)) := hid (by unfold crNew; rw [hf]; rfl)
    have hf' := hid hf
    clear hf
    obtain ⟨ro, rb, rc⟩ := hT.out.ret (OwC.zero W w.heap.size) (Nat.le_refl _)
    replace ro := hid ro
    replace rb := hid rb
    obtain ⟨y0, y1, -, -⟩ := rc.two
    obtain ⟨z0, z1, z2, z3⟩ := hT.out.z.two
    clear rc
    go_enter Try.func11, Try.ntmps11
    go_upto_region 1 with (fail)
    rw [hW.out]
    go_wp2_with (go_at_call 32; (with_reducible refine (freeValid_as hf'.out _ hR.out hn).mono ?_); rintro e w1 ⟨rfl, rfl⟩)
    refine bodyPost_ret (v := .tuple #[crV (.slice none 0 0) (.slice none 0 0), .bool false]) (by simp [results, Try.results11, go_sem, y0, y1]) rfl ?_
    rw [hno.out]
    exact ⟨_, _, _, rfl, ro.out, rb.out⟩
  | true =>
    have hf' := hid hf
    cases hi : inB s 1 6 with
    | false =>
      have hno : Hid (crNew fr s = (cr0, false)) := hid (by unfold crNew; rw [hf, hi]; rfl)
      have hi' := hid hi
      clear hf hi
      obtain ⟨ro, rb, rc⟩ := hT.out.ret (OwC.zero W w.heap.size) (Nat.le_refl _)
      replace ro := hid ro
      replace rb := hid rb
      obtain ⟨y0, y1, -, -⟩ := rc.two
      obtain ⟨z0, z1, z2, z3⟩ := hT.out.z.two
      clear rc
      go_enter Try.func11, Try.ntmps11
      go_upto_region 1 with (fail)
      rw [hW.out]
      go_wp2_with (first | (go_at_call 32; (with_reducible refine (freeValid_as hf'.out _ hR.out hn).mono ?_); rintro e w1 ⟨rfl, rfl⟩) | (go_at_call 33; (with_reducible refine (sendersFit_as hi'.out _).mono ?_); rintro e w1 ⟨rfl, rfl⟩))
      refine bodyPost_ret (v := .tuple #[crV (.slice none 0 0) (.slice none 0 0), .bool false]) (by simp [results, Try.results11, go_sem, y0, y1]) rfl ?_
      rw [hno.out]
      exact ⟨_, _, _, rfl, ro.out, rb.out⟩
    | true =>
      obtain ⟨s1, s6⟩ := inB_true.1 hi
      obtain ⟨S, rfl⟩ := Int.eq_ofNat_of_zero_le (show 0 ≤ s by omega)
      have hyes : Hid (crNew fr (S : Int) = (⟨fr, List.replicate S ([], -1)⟩, true)) := hid (by unfold crNew; rw [hf, hi]; rfl)
      have hi' := hid hi
      have hS6 : S ≤ 6 := by omega
      have hlit := hid (OwI.lit0 W rfl)
      have hF2 := hid (show RdI (W.alloc (.cells #[] 3)) w.heap.size A n fr from Reads.alloc hR.out hT.out.b.size _)
      have hlt := hT.out.lt
      clear hf hi s1 s6
      go_enter Try.func11, Try.ntmps11
      go_upto_region 1 with (fail)
      rw [hW.out]
      go_wp2_with (first | (go_at_call 32; (with_reducible refine (freeValid_as hf'.out _ hR.out hn).mono ?_); rintro e w1 ⟨rfl, rfl⟩) | (go_at_call 33; (with_reducible refine (sendersFit_as hi'.out _).mono ?_); rintro e w1 ⟨rfl, rfl⟩) | (at_builtin; refine wpList_appH2 rfl (.tmp 16) (.tmp 17) rfl (B := W.heap.size) (v := .slice (some ⟨W.heap.size, 0, none⟩) 0 0) (zs := []) rfl rfl hlit.out hF2.out (by simp) (by simp; omega) ?_; intro v1 w1 hv1 hg1 hk1; rw [List.nil_append] at hv1; obtain ⟨B1, C1, rfl, -⟩ := hv1.form))
      have hb1 := hid (show Below W.heap.size W w1 from ((below1 W (.cells #[] 3)).grown hg1 (by simp) (fun k h => by injection h with h; simp only at h; omega)))
      have hz1 := hb1.out.size
      obtain ⟨W4, hW4⟩ : ∃ W4, w1.alloc (.cells #[.slice B1 fr.length C1, .slice none 0 0] 25) = W4 := ⟨_, rfl⟩
      have hb4 := hid (show Below W.heap.size W W4 by rw [← hW4]; exact hb1.out.alloc hz1 _)
      have hO4 := hid (show OwC W4 W.heap.size (.slice B1 fr.length C1) (.slice none 0 0) [] ⟨fr, List.replicate 0 ([], -1)⟩ by
        rw [← hW4]
        exact OwC.nil (own_of_block hv1 fun g hg => Below.heap_alloc w1 _ g (hv1.lt g hg).2))
      have hU4 := hid (show Cs W4 w1.heap.size 25 #[.slice B1 fr.length C1, .slice none 0 0] by rw [← hW4]; exact Cs.new w1 _ _)
      have hW4' := hid hW4
      clear hlit hF2 hg1 hk1 hv1 hW4 hb1
      rw [hW4'.out]
      go_wp2
      go_loopw [21] (fun i wr => ∃ (k : Nat) (H : Value) (vals : List Value), k ≤ S ∧ i = .int .i64 k ∧ Hid (OwC wr W.heap.size (.slice B1 fr.length C1) H vals ⟨fr, List.replicate k ([], -1)⟩) ∧ Hid (Cs wr w1.heap.size 25 #[.slice B1 fr.length C1, H]) ∧ Hid (Below W.heap.size W wr)) (fun i _ => S - (intOf i).toNat)
      case atStart => exact ⟨0, _, [], Nat.zero_le _, rfl, hO4, hU4, hb4⟩
      case round =>
        clear hO4 hU4 hb4
        obtain ⟨k, H, vals, hk, rfl, hO, hU, hb⟩ := hrel
        have hbz := hb.out.size
        have hUl := hU.out.lt
        by_cases hlt2 : k < S
        · have i0 : (0 : Int) ≤ (k : Int) := by omega
          have i1 : (k : Int) < (S : Int) := by omega
          have hU5 := hid (show Cs (wr) w1.heap.size 25 #[.slice B1 fr.length C1, H] from hU.out)
          have hO5 := hid (show OwC (wr) W.heap.size (.slice B1 fr.length C1) H vals ⟨fr, List.replicate k ([], -1)⟩ from hO.out)
          have hb5 := hid (show Below W.heap.size W (wr) from hb.out)
          obtain ⟨y0, y1, -, -⟩ := hU.out.two
          have hkn : Hid ((List.replicate k (([], -1) : Ho)).length = k) := hid (by simp)
          have hrep : Hid (List.replicate (k + 1) (([], -1) : Ho) = List.replicate k ([], -1) ++ [([], -1)]) := hid (by rw [List.replicate_succ'])
          have hH5 := hid (show World.ownsRow (wr) W.heap.size 49 2 H k (hcs vals (List.replicate k ([], -1))) from by have := hO5.out.h; rw [hkn.out] at this; exact this)
          have hsz5 : (wr).heap.size = wr.heap.size := rfl
          go_wp2_with (at_builtin; refine wpList_appHo' rfl (.tmp 24) (.tmp 26) rfl W.heap.size none 0 0 (-1) H k (hcs vals (List.replicate k ([], -1))) hsz5 rfl rfl hH5.out (by omega) (by omega) ?_; intro H8 w8 hH8 hg8; obtain ⟨A8, N8, C8, rfl, hN8⟩ := own_formN hH8; have hU8 := hid (show Cs w8 w1.heap.size 25 #[.slice B1 fr.length C1, H] from grown_cs hU5.out hg8 (cs_type hU5.out hO5.out.h (by decide))); obtain ⟨-, u1, -, -⟩ := hU8.out.two; have u2 := hU8.out.frozen 1)
          have hO8 := hid (hO5.out.app (v := .slice none 0 0) (zs := []) (x := -1) (World.ownsRow_nil _ _ _ _) (fun g hg => by cases hg) (by rw [hkn.out]; exact hH8) hg8)
          have hb8 := hid (hb5.out.grown hg8 (by omega) (fun g hg => (hO5.out.lt (.inr (.inl hg))).1))
          rw [← hrep.out] at hO8
          obtain ⟨W9, hW9⟩ : ∃ W9, w8.setCell ⟨w1.heap.size, 1, none⟩ (.slice A8 N8 C8) = W9 := ⟨_, rfl⟩
          have hO9 := hid (show OwC W9 W.heap.size (.slice B1 fr.length C1) (.slice A8 N8 C8) (vals ++ [.slice none 0 0]) ⟨fr, List.replicate (k + 1) ([], -1)⟩ by rw [← hW9]; exact hO8.out.one (p := ⟨w1.heap.size, 1, none⟩) (hO8.out.off hU8.out (by decide) (by decide)) _)
          have hU9 := hid (show Cs W9 w1.heap.size 25 #[.slice B1 fr.length C1, .slice A8 N8 C8] by rw [← hW9]; exact hU8.out.set 1 _)
          have hb9 := hid (show Below W.heap.size W W9 by rw [← hW9]; exact hb8.out.setCell (p := ⟨w1.heap.size, 1, none⟩) hz1 _)
          rw [hW9]
          clear hU5 hO5 hb5 hO8 hU8 hb8 y0 y1 u1 u2 hH8 hg8 hW9 hH5
          go_wp2
          go_roundw
          case rel => exact ⟨k + 1, _, _, by omega, by go_num, hO9, hU9, hb9⟩
          case measure => simp [intOf]; omega
        · obtain rfl : k = S := by omega
          obtain ⟨u0, u1, -, -⟩ := hU.out.two
          have hTr := hid (hT.out.step hb.out)
          obtain ⟨z0, z1, z2, z3⟩ := hTr.out.z.two
          have hkk : ¬ ((k : Int) < (k : Int)) := by omega
          obtain ⟨A9, N9, C9, e9, hN9⟩ := own_formN hO.out.h
          subst e9
          obtain ⟨ro, rb, rc⟩ := hTr.out.ret hO.out hT.out.b.size
          replace ro := hid ro
          replace rb := hid rb
          obtain ⟨r0, r1, -, -⟩ := rc.two
          clear rc hO hU hb
          go_wp2
          refine bodyPost_ret (v := .tuple #[crV (.slice B1 fr.length C1) (.slice A9 N9 C9), .bool true]) (by simp [results, Try.results11, go_sem, r0, r1]) rfl ?_
          rw [hyes.out]
          exact ⟨_, _, _, rfl, ro.out, rb.out⟩
end Go.Proofs.Ytgeihcbiahnnaaa
