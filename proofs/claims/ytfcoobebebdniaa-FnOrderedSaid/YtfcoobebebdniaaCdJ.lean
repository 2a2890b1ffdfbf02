/-
  Contract of the model's CreditsGive. No condition but lengths below 2^40.
-/
import Derived.Test.YtfcoobebebdniaaCdI
import Derived.Deep.QuietTactic
namespace Go.Proofs.Ytfcoobebebdniaa
open Go.RowKit
set_option linter.unusedVariables false
set_option linter.unusedSimpArgs false

/-- bounds that hold all along -/
structure OkC (B : Int) (n : Nat) (d : Cr) : Prop where
  fl : d.fr.length = 5
  hn : d.hs.length = n
  f : ∀ g, g < 5 → 0 ≤ d.f g ∧ d.f g ≤ B
  s : ∀ i, i < n → setB (d.h i).1 = true

theorem OkC.of {c : Cr} (v : Vc c) : OkC 9 c.hs.length c := ⟨v.fl, rfl, v.fr, v.set⟩

theorem OkC.clr {B : Int} {n S : Nat} {d : Cr} (h : OkC B n d) (hS : S < n) : OkC B n (clr d S) :=
  ⟨h.fl, by simp [Go.Proofs.Ytfcoobebebdniaa.clr, h.hn], h.f, fun i hi => by
    rw [clr_h (by rw [h.hn]; exact hS)]
    split
    · rfl
    · exact h.s i hi⟩

theorem inc_f {c : Cr} {g k : Nat} (hg : g < c.fr.length) : (inc c g).f k = if k = g then c.f g + 1 else c.f k := getD_set hg

theorem OkC.inc {B : Int} {n g : Nat} {d : Cr} (h : OkC B n d) (hg : g < 5) : OkC (B + 1) n (inc d g) :=
  ⟨by simp [Go.Proofs.Ytfcoobebebdniaa.inc, h.fl], h.hn, fun k hk => by
    rw [inc_f (by rw [h.fl]; exact hg)]
    have := h.f g hg
    have := h.f k hk
    split <;> omega, h.s⟩

theorem OkC.tak {B : Int} {n s g : Nat} {d : Cr} (h : OkC B n d) (hs : s < n) (hg : g < 5) (h0 : 0 < d.f g) : OkC B n (tak d s g) :=
  ⟨by rw [tak_n.2, h.fl], by rw [tak_n.1, h.hn], fun k hk => by
    rw [tak_f (by rw [h.fl]; exact hg)]
    have := h.f g hg
    have := h.f k hk
    split <;> omega, fun i hi => by
    rw [tak_h (by rw [h.hn]; exact hs)]
    split
    · exact unionL_set _ _
    · exact h.s i hi⟩

theorem OkC.short {B : Int} {n : Nat} {d : Cr} (h : OkC B n d) : ∀ x ∈ d.hs, x.1.length < 1000000 := fun x hx => by
  obtain ⟨i, hi, rfl⟩ := List.getElem_of_mem hx
  have e : d.h i = d.hs[i] := h_at (List.getElem?_eq_getElem hi)
  have := set_len (h.s i (by rw [← h.hn]; exact hi))
  rw [e] at this; omega

theorem giveTo_snoc {c : Cr} {S k : Nat} {gs : List Int} {G : Nat} (h : gs[k]? = some (G : Int)) : giveTo c S (gs.take (k + 1)) = serv (giveTo c S (gs.take k)) G := by
  obtain ⟨hl, e⟩ := List.getElem?_eq_some_iff.1 h
  rw [List.take_succ_eq_append_getElem hl, e]
  unfold giveTo
  rw [List.foldl_append]; rfl

theorem ful_take {c : Cr} {gs : List Int} {k : Nat} {z : Int} (h : gs[k]? = some z) (h1 : fulB c (gs.take k) = false) (h2 : ¬ 9 ≤ c.f z.toNat) : fulB c (gs.take (k + 1)) = false := by
  obtain ⟨hl, e⟩ := List.getElem?_eq_some_iff.1 h
  rw [List.take_succ_eq_append_getElem hl, e]
  unfold fulB at h1 ⊢
  rw [List.any_append, h1]
  simpa using h2

theorem ful_hit {c : Cr} {gs : List Int} {z : Int} (h : z ∈ gs) (h2 : 9 ≤ c.f z.toNat) : fulB c gs = true := by
  unfold fulB
  rw [List.any_eq_true]
  exact ⟨z, h, by simpa using h2⟩
section
variable {c : Cr} {S : Nat}

theorem giv_w (h : sdB c (S : Int) = true) (hw : 0 ≤ (c.h S).2 ∨ (c.h S).1.length = 0) : giveR c S = (c, false) := by
  unfold giveR; rw [if_pos h]; simp only [Int.toNat_natCast]; rw [if_pos hw]

theorem giv_f (h : sdB c (S : Int) = true) (hw : ¬ (0 ≤ (c.h S).2 ∨ (c.h S).1.length = 0)) (hf : fulB c (c.h S).1 = true) : giveR c S = (c, false) := by
  unfold giveR; rw [if_pos h]; simp only [Int.toNat_natCast]; rw [if_neg hw, hf, if_pos rfl]

theorem giv_t (h : sdB c (S : Int) = true) (hw : ¬ (0 ≤ (c.h S).2 ∨ (c.h S).1.length = 0)) (hf : fulB c (c.h S).1 = false) : giveR c S = (giveTo c S (c.h S).1, true) := by
  unfold giveR; rw [if_pos h]; simp only [Int.toNat_natCast]; rw [if_neg hw, hf]; rfl
end

theorem Two0.quiet {w W W' : World} {F H : Value} (h : Two0 w W F H) (hq : Qt W W') : Two0 w W' F H := by
  obtain ⟨q, rfl⟩ := hq
  exact ⟨⟨h.b.os, h.b.tape, h.b.output, h.b.size, h.b.block⟩, h.a, h.z, h.lt⟩

theorem Two0.drew {w W : World} {F H : Value} (h : Two0 w W F H) : Two0 w W.drew F H := h.quiet ((Qt.refl W).drew)

theorem Cs.quiet {w W' : World} {b : Nat} {T : TypeId} {cs : Array Value} (h : Cs w b T cs) (hq : Qt w W') : Cs W' b T cs := by
  obtain ⟨q, rfl⟩ := hq; exact h

theorem OkC.cast {B B' : Int} {n : Nat} {d : Cr} (h : OkC B n d) (e : B = B') : OkC B' n d := e ▸ h

theorem OwC.quiet {w W' : World} {lo : Nat} {F H : Value} {vals : List Value} {c : Cr} (h : OwC w lo F H vals c) (hq : Qt w W') : OwC W' lo F H vals c := by
  obtain ⟨q, rfl⟩ := hq
  exact ⟨h.f, h.h, h.len, h.i, h.apF, h.ap, h.top⟩

/-- the way out of a loop behind a letter -/
theorem wp_open_blk {P : Program} {c : Code} {J K : Act → World → Prop} {n m : Nat} {Q2 : Exit → Act → World → Prop} {a : Act} {w : World}
    (h : ∀ Q' : Exit → Act → World → Prop, (∀ a w, K a w → Q' (.exit n) a w) → c.wp P (Exit.then J Q') a w) : c.wp P (Exit.then J (Exit.inBlock n (Exit.inBlock m (Exit.then K Q2)))) a w :=
  h _ (fun _ _ q => by simpa [Exit.then, Exit.inBlock] using q)

theorem OwC.hole {w : World} {lo b n cp s : Nat} {F : Value} {vals : List Value} {c : Cr} (h : OwC w lo F (.slice (some ⟨b, 0, none⟩) n cp) vals c) (hs : s < c.hs.length) :
    ∃ A m ci, w.cell? ⟨b, s * 2, none⟩ = some (.slice A m ci) ∧ w.cell? ⟨b, s * 2 + 1, none⟩ = some (.int .i64 (c.h s).2) ∧ w.frozen? ⟨b, s * 2, none⟩ = false ∧ w.frozen? ⟨b, s * 2 + 1, none⟩ = false := by
  obtain ⟨k0, k1, -⟩ := h.setW hs 0
  obtain ⟨v, h1, h2⟩ := h.i s _ (at_h hs)
  obtain ⟨A, ci, e, -⟩ := h2.form
  have hl : c.hs.length = n := by
    rcases h.h.2 with ⟨e, _⟩ | ⟨g, cap, cur, e, _⟩
    · cases e
    · injection e with _ e2; exact e2.symm
  have hoo : w.ownsRow lo 33 2 (.slice (some ⟨b, 0, none⟩) n cp) n (hcs vals c.hs) := by have := h.h; rw [hl] at this; exact this
  refine ⟨A, (c.h s).1.length, ci, ?_, k0, k1 _, k1 _⟩
  rw [hoo.cellAt _ (by omega), ← e]
  exact (hcs_get h1 (at_h hs)).1

set_option maxHeartbeats 8000000 in
theorem CreditsGive_spec {A1 A2 : Option Addr} {n1 n2 c1 c2 : Nat} {c : Cr} (s : Int) (w : World) (hr : RdC w A1 n1 A2 n2 c) :
    Calls Try.prog 31 #[crV (.slice A1 n1 c1) (.slice A2 n2 c2), .int .i64 s] w (CrPost2 (giveR c s) w) := by
  obtain ⟨W, hW⟩ : ∃ W, (w.alloc (.cells #[.slice A1 n1 c1, .slice A2 n2 c2] 28)).alloc (.cells #[.slice none 0 0, .slice none 0 0] 28) = W := ⟨_, rfl⟩
  have hT := hid (show Two0 w W (.slice A1 n1 c1) (.slice A2 n2 c2) by rw [← hW]; exact Two0.new w _ _)
  have hR := hid (show RdC W A1 n1 A2 n2 c by rw [← hW]; exact (hr.alloc _).alloc _)
  obtain ⟨l1, l2⟩ := hr.len
  have l1' := hid l1
  have l2' := hid l2
  have b2 := hr.b2
  have hr' := hid hr
  replace hW := hid hW
  clear hr l1 l2
  obtain ⟨d0, d1, -, -⟩ := hT.out.a.two
  have hw2 : IntKind.i64.wrap ((n2 : Int) - 1) = (n2 : Int) - 1 := IntWalk.i64_in _ (by omega)
  cases hv : crB c with
  | false =>
    have hno : Hid (giveR c s = (cr0, false)) := hid (by unfold giveR sdB; rw [hv]; rfl)
    have hv' := hid hv
    clear hv
    go_enter Try.func31, Try.ntmps31
    go_upto_region 1 with (fail)
    rw [hW.out]
    go_wp2_with fail
    refine (CreditsValid_as hv'.out _ hR.out).mono ?_
    rintro e w1 ⟨rfl, hb1⟩
    have hT1 := hid (hT.out.step hb1)
    obtain ⟨z0, z1, z2, z3⟩ := hT1.out.z.two
    obtain ⟨ro, rb, rc⟩ := hT1.out.ret (OwC.zero w1 w.heap.size) (Nat.le_refl _)
    replace ro := hid ro
    replace rb := hid rb
    obtain ⟨y0, y1, -, -⟩ := rc.two
    clear hb1 d0 d1 rc
    obtain ⟨d0, d1, -, -⟩ := hT1.out.a.two
    go_wp2_with fail
    refine bodyPost_ret (v := .tuple #[crV (.slice none 0 0) (.slice none 0 0), .bool false]) (by simp [results, Try.results31, go_sem, y0, y1]) rfl ?_
    rw [hno.out]
    exact ⟨_, _, _, rfl, ro.out, rb.out⟩
  | true =>
    have hv' := hid hv
    have v := hid (crB_true.1 hv)
    cases hin : inB s 0 ((n2 : Int) - 1) with
    | false =>
      have hno : Hid (giveR c s = (cr0, false)) := hid (by unfold giveR sdB; rw [hv, l2'.out, hin]; rfl)
      have hin' := hid hin
      clear hv hin
      go_enter Try.func31, Try.ntmps31
      go_upto_region 1 with (fail)
      rw [hW.out]
      go_wp2_with fail
      refine (CreditsValid_as hv'.out _ hR.out).mono ?_
      rintro e w1 ⟨rfl, hb1⟩
      have hT1 := hid (hT.out.step hb1)
      obtain ⟨z0, z1, z2, z3⟩ := hT1.out.z.two
      obtain ⟨ro, rb, rc⟩ := hT1.out.ret (OwC.zero w1 w.heap.size) (Nat.le_refl _)
      replace ro := hid ro
      replace rb := hid rb
      obtain ⟨y0, y1, -, -⟩ := rc.two
      clear hb1 d0 d1 rc
      obtain ⟨d0, d1, -, -⟩ := hT1.out.a.two
      go_wp2_with (go_at_call 42; (with_reducible refine (l6In_as hin'.out _).mono ?_); rintro e w2 ⟨rfl, rfl⟩)
      refine bodyPost_ret (v := .tuple #[crV (.slice none 0 0) (.slice none 0 0), .bool false]) (by simp [results, Try.results31, go_sem, y0, y1]) rfl ?_
      rw [hno.out]
      exact ⟨_, _, _, rfl, ro.out, rb.out⟩
    | true =>
      have hin' := hid hin
      have hsd : sdB c s = true := by unfold sdB; rw [hv, l2'.out, hin]; rfl
      obtain ⟨h3, h4⟩ := inB_true.1 hin
      obtain ⟨S, rfl⟩ := Int.eq_ofNat_of_zero_le h3
      have hsd' := hid hsd
      have hS2 : S < n2 := by omega
      have hS : S < c.hs.length := by rw [l2'.out]; exact hS2
      have hn5 : n1 = 5 := by rw [← l1'.out]; exact v.out.fl
      have s0 : (0 : Int) ≤ (S : Int) := by omega
      have s1 : (S : Int) < (n2 : Int) := by omega
      have hn1 : n1 < 1000000 := by omega
      have hn2 : n2 < 1000000 := by have := v.out.n6; rw [l2'.out] at this; omega
      replace hn5 := hid hn5
      clear hv hin hsd h3 h4
      go_enter Try.func31, Try.ntmps31
      go_upto_region 1 with (fail)
      rw [hW.out]
      go_wp2_with fail
      refine (CreditsValid_as hv'.out _ hR.out).mono ?_
      rintro e w1 ⟨rfl, hb1⟩
      have hT1 := hid (hT.out.step hb1)
      have hR1 := hid (hR.out.step hb1)
      clear hb1 d0 d1
      obtain ⟨d0, d1, -, -⟩ := hT1.out.a.two
      go_wp2_with (go_at_call 42; (with_reducible refine (l6In_as hin'.out _).mono ?_); rintro e w2 ⟨rfl, rfl⟩)
      refine (l22Copy_any _ hR1.out hn1).mono ?_
      rintro e w3 ⟨F3, H3, vals3, rfl, hO3, hb3⟩
      have hT3 := hid (hT1.out.step hb3)
      have hR3 := hid (hR1.out.step hb3)
      have hlo := hT1.out.lt
      have hz3 := hb3.size
      obtain ⟨bF, cF, rfl, hF1, hF2⟩ := own_some hO3.f (by rw [l1'.out, hn5.out]; omega)
      obtain ⟨bH, cH, rfl, hH1, hH2⟩ := own_some hO3.h (by rw [l2'.out]; omega)
      rw [l1'.out, l2'.out] at hO3
      rw [l1'.out, l2'.out]
      obtain ⟨W4, hW4⟩ : ∃ W4, w3.alloc (.cells #[.slice (some ⟨bF, 0, none⟩) n1 cF, .slice (some ⟨bH, 0, none⟩) n2 cH] 28) = W4 := ⟨_, rfl⟩
      have hb4 : Below w3.heap.size w3 W4 := by rw [← hW4]; exact below1 w3 _
      have hT4 := hid (hT3.out.step hb4)
      have hR4 := hid (hR3.out.step hb4)
      have hO4 := hid (hO3.step hb4)
      have hU4 := hid (show Cs W4 w3.heap.size 28 #[.slice (some ⟨bF, 0, none⟩) n1 cF, .slice (some ⟨bH, 0, none⟩) n2 cH] by rw [← hW4]; exact Cs.new w3 _ _)
      have hz4 : w3.heap.size < W4.heap.size := by rw [← hW4]; simp
      have hW4' := hid hW4
      clear hb4 hW4 hO3 hb3 d0 d1 hT1 hT3 hR1 hR3
      go_upto_region 4 with (fail)
      rw [hW4'.out]
      clear hW4'
      obtain ⟨d0, d1, -, -⟩ := hT4.out.a.two
      obtain ⟨u0, u1, -, -⟩ := hU4.out.two
      obtain ⟨z0, z1, z2, z3⟩ := hT4.out.z.two
      -- the sender's set, as it came in
      obtain ⟨b, off, Ai, m, ci, rfl, hbb, hm, e0, e1, hri, hmc, hci, hml⟩ := hr'.out.at_ hS2
      have e0 := (hT4.out.b.cell (p := ⟨b, off + S * 2, none⟩) hbb).trans e0
      have e1 := (hT4.out.b.cell (p := ⟨b, off + S * 2 + 1, none⟩) hbb).trans e1
      obtain ⟨x, hx⟩ : ∃ x, (c.h S).2 = x := ⟨_, rfl⟩
      obtain ⟨zs, hzs⟩ : ∃ zs, (c.h S).1 = zs := ⟨_, rfl⟩
      rw [hx] at e1
      rw [hzs] at hm hri
      by_cases hx0 : 0 ≤ x
      · have hq := hid (giv_w hsd'.out (by rw [hx]; exact .inl hx0))
        obtain ⟨ro, rb, rc⟩ := hT4.out.ret hO4.out (by omega)
        replace ro := hid ro
        replace rb := hid rb
        obtain ⟨y0, y1, -, -⟩ := rc.two
        clear rc hx hzs
        go_wp2
        refine bodyPost_ret (v := .tuple #[crV (.slice (some ⟨bF, 0, none⟩) n1 cF) (.slice (some ⟨bH, 0, none⟩) n2 cH), .bool false]) (by simp [results, Try.results31, go_sem, y0, y1]) rfl ?_
        rw [hq.out]
        exact ⟨_, _, _, rfl, ro.out, rb.out⟩
      · by_cases hm0 : m = 0
        · have hq := hid (giv_w hsd'.out (by rw [hzs, hm.out]; exact .inr hm0))
          have hm1 : ((m : Int) == 0) = true := by simp [hm0]
          have hm2 : (m : Int) = 0 := by omega
          obtain ⟨ro, rb, rc⟩ := hT4.out.ret hO4.out (by omega)
          replace ro := hid ro
          replace rb := hid rb
          obtain ⟨y0, y1, -, -⟩ := rc.two
          clear rc hx hzs hm0
          go_wp2
          refine bodyPost_ret (v := .tuple #[crV (.slice (some ⟨bF, 0, none⟩) n1 cF) (.slice (some ⟨bH, 0, none⟩) n2 cH), .bool false]) (by simp [results, Try.results31, go_sem, y0, y1]) rfl ?_
          rw [hq.out]
          exact ⟨_, _, _, rfl, ro.out, rb.out⟩
        · have hcond := hid (show ¬ (0 ≤ (c.h S).2 ∨ (c.h S).1.length = 0) by rw [hx, hzs, hm.out]; omega)
          have hset := hid (setB_true.1 (show setB zs = true by rw [← hzs]; exact v.out.set S hS))
          have hm1 : ((m : Int) == 0) = false := by simp [hm0]
          have hm2 : ¬ ((m : Int) = 0) := by omega
          have hzs' := hid hzs
          have hm5 : m ≤ 5 := by rw [← hm.out]; exact set_len (by rw [← hzs]; exact v.out.set S hS)
          have hel := hid (fun (k : Nat) (hk : k < m) => show ∃ G : Nat, zs[k]? = some (G : Int) ∧ G < 5 from by
            have hkl : k < zs.length := by rw [hm.out]; exact hk
            have := hset.out.2 _ (List.getElem_mem hkl)
            exact ⟨zs[k].toNat, by rw [List.getElem?_eq_getElem hkl]; congr 1; omega, by omega⟩)
          clear hx hzs hm0
          go_wp2
          go_loopw [8] (fun i wr => ∃ k : Nat, k ≤ m ∧ i = .int .i64 k ∧ Qt W4 wr ∧ Hid (fulB c (zs.take k) = false)) (fun i _ => m - (intOf i).toNat)
          case atStart => exact ⟨0, Nat.zero_le _, rfl, Qt.refl _, hid rfl⟩
          case round =>
            obtain ⟨k, hk, rfl, hqt, hful⟩ := hrel
            by_cases hlt : k < m
            · have hTr := hid (hT4.out.quiet hqt)
              have hUr := hid (show Cs wr w3.heap.size 28 #[.slice (some ⟨bF, 0, none⟩) n1 cF, .slice (some ⟨bH, 0, none⟩) n2 cH] by obtain ⟨q, rfl⟩ := hqt; exact hU4.out)
              clear d0 d1 u0 u1 z0 z1 z2 z3
              obtain ⟨d0, d1, -, -⟩ := hTr.out.a.two
              obtain ⟨u0, u1, -, -⟩ := hUr.out.two
              obtain ⟨z0, z1, z2, z3⟩ := hTr.out.z.two
              obtain ⟨G, hzg, hG5⟩ := hel.out k hlt
              obtain ⟨ad, z, e9, hz, hcz⟩ := RdI.at' (Reads.below hri.out hTr.out.b) hlt
              subst e9
              have hzG : z = (G : Int) := by
                have := hz.out
                rw [List.getD_eq_getElem?_getD, hzg] at this
                exact this.symm
              subst hzG
              obtain ⟨ad2, y, e9, hy, hcy⟩ := RdI.at' (Reads.below hr'.out.f hTr.out.b) (show G < n1 by rw [hn5.out]; exact hG5)
              subst e9
              have i0 : (0 : Int) ≤ (k : Int) := by omega
              have i1 : (k : Int) < (m : Int) := by omega
              have j0 : (0 : Int) ≤ (G : Int) := by omega
              have j1 : (G : Int) < (n1 : Int) := by rw [hn5.out]; omega
              have hyf : c.f G = y := hy.out
              clear hz hy
              by_cases h9 : 9 ≤ y
              · have hq := hid (giv_f hsd'.out hcond.out (by rw [hzs'.out]; exact ful_hit (List.mem_of_getElem? hzg) (by simpa [hyf] using h9)))
                have h9' : (9 : Int) ≤ y := h9
                clear hzg hyf
                go_wp2
                go_quiet (fail)
                have hq2 : Qt W4 (wr.drewN nq) := hqt.drewN nq
                obtain ⟨ro, rb, rc⟩ := (hT4.out.quiet hq2).ret (hO4.out.quiet hq2) (by omega)
                replace ro := hid ro
                replace rb := hid rb
                obtain ⟨y0, y1, -, -⟩ := rc.two
                clear rc hq2
                go_wp2
                refine bodyPost_ret (v := .tuple #[crV (.slice (some ⟨bF, 0, none⟩) n1 cF) (.slice (some ⟨bH, 0, none⟩) n2 cH), .bool false]) (by simp [results, Try.results31, go_sem, y0, y1]) rfl ?_
                rw [hq.out]
                exact ⟨_, _, _, rfl, ro.out, rb.out⟩
              · have hnx := hid (ful_take hzg hful.out (by simpa [hyf] using h9))
                have h9' : ¬ (9 : Int) ≤ y := h9
                clear hzg hyf
                go_wp2
                go_quiet (fail)
                go_wp2
                go_roundw
                case rel => exact ⟨k + 1, by omega, by go_num, hqt.drewN _, hnx⟩
                case measure => simp [intOf]; omega
            · obtain rfl : k = m := by omega
              rw [List.take_of_length_le (by rw [hm.out]; omega)] at hful
              have hq := hid (giv_t hsd'.out hcond.out (by rw [hzs'.out]; exact hful.out))
              rw [hzs'.out] at hq
              have hkk : ¬ ((k : Int) < (k : Int)) := by omega
              -- the sender has nothing from now on
              have hT5 := hid (hT4.out.quiet hqt)
              have hO5 := hid (hO4.out.quiet hqt)
              have hU5 := hid (show Cs wr w3.heap.size 28 #[.slice (some ⟨bF, 0, none⟩) n1 cF, .slice (some ⟨bH, 0, none⟩) n2 cH] by obtain ⟨q, rfl⟩ := hqt; exact hU4.out)
              have hz5 : w3.heap.size < wr.heap.size := by obtain ⟨q, rfl⟩ := hqt; exact hz4
              clear hful hqt hT4 hO4 hU4 hR4 hcond d0 d1 u0 u1 z0 z1 z2 z3 e0 e1
              obtain ⟨u0, u1, -, -⟩ := hU5.out.two
              obtain ⟨Ax, mx, cx, k0, k1, k2, k3⟩ := hO5.out.hole hS
              obtain ⟨Ay, my, cy, k4, k5, k6, k7⟩ := (hO5.out.step (below1 wr (.cells #[] 3))).hole hS
              obtain ⟨W6, hW6⟩ : ∃ W6, (((wr.alloc (.cells #[] 3)).setCell ⟨bH, S * 2, none⟩ (.slice (some ⟨wr.heap.size, 0, none⟩) 0 0)).setCell ⟨bH, S * 2 + 1, none⟩ (.int .i64 (-1))) = W6 := ⟨_, rfl⟩
              have hW6e := hW6
              have hO6 := hid (show OwC W6 w1.heap.size (.slice (some ⟨bF, 0, none⟩) n1 cF) (.slice (some ⟨bH, 0, none⟩) n2 cH) (vals3.set S (.slice (some ⟨wr.heap.size, 0, none⟩) 0 0)) (giveTo c S (zs.take 0)) by
                rw [← hW6e]
                have h1 := hO5.out.step (below1 wr (.cells #[] 3))
                exact h1.setH hS (own_lo (OwI.lit0 wr rfl) (by omega)) (fun q hq hk => by injection hq with hq; simp only at hq; have := (hO5.out.lt hk).2; omega) (-1))
              have hT6 := hid (show Two0 w W6 (.slice A1 n1 c1) (.slice (some ⟨b, off, none⟩) n2 c2) by
                rw [← hW6e]
                exact (hT5.out.step (below1 wr _)).stepB (((Below.refl w1.heap.size (wr.alloc (.cells #[] 3))).setCell (p := ⟨bH, S * 2, none⟩) hH1 _).setCell (p := ⟨bH, S * 2 + 1, none⟩) hH1 _) hlo)
              have hU6 := hid (show Cs W6 w3.heap.size 28 #[.slice (some ⟨bF, 0, none⟩) n1 cF, .slice (some ⟨bH, 0, none⟩) n2 cH] by
                rw [← hW6e]
                exact ((hU5.out.alloc _).far (p := ⟨bH, S * 2, none⟩) (by show w3.heap.size ≠ bH; omega) _).far (p := ⟨bH, S * 2 + 1, none⟩) (by show w3.heap.size ≠ bH; omega) _)
              have hz6 : w3.heap.size < W6.heap.size := Cs.lt hU6.out
              have hok := hid (show OkC (9 + ((0 : Nat) : Int)) n2 (giveTo c S (zs.take 0)) from by
                have := (OkC.of v.out).clr (S := S) hS
                rw [l2'.out] at this
                simpa [giveTo] using this)
              have hW6' := hid hW6
              clear hT5 hO5 hU5 hz5 hW6 hW6e
              go_upto_region 13 with (fail)
              rw [hW6'.out]
              clear hW6' u0 u1 k0 k1 k2 k3 k4 k5 k6 k7
              go_wp2
              go_loopw [9] (fun i wr => ∃ (j : Nat) (vals : List Value), j ≤ k ∧ i = .int .i64 j ∧ Hid (OwC wr w1.heap.size (.slice (some ⟨bF, 0, none⟩) n1 cF) (.slice (some ⟨bH, 0, none⟩) n2 cH) vals (giveTo c S (zs.take j))) ∧ Hid (Two0 w wr (.slice A1 n1 c1) (.slice (some ⟨b, off, none⟩) n2 c2)) ∧ Hid (Cs wr w3.heap.size 28 #[.slice (some ⟨bF, 0, none⟩) n1 cF, .slice (some ⟨bH, 0, none⟩) n2 cH]) ∧ Hid (OkC (9 + (j : Int)) n2 (giveTo c S (zs.take j)))) (fun i _ => k - (intOf i).toNat)
              case atStart => exact ⟨0, _, Nat.zero_le _, rfl, hO6, hT6, hU6, hok⟩
              case round =>
                clear hO6 hT6 hU6 hok hz6
                obtain ⟨j, vals, hj, rfl, hO, hT7, hU, hok⟩ := hrel
                obtain ⟨u0, u1, -, -⟩ := hU.out.two
                by_cases hjm : j < k
                · obtain ⟨G, hzg, hG5⟩ := hel.out j hjm
                  obtain ⟨ad, z, e9, hz, hcz⟩ := RdI.at' (Reads.below hri.out hT7.out.b) hjm
                  subst e9
                  have hzG : z = (G : Int) := by
                    have := hz.out
                    rw [List.getD_eq_getElem?_getD, hzg] at this
                    exact this.symm
                  subst hzG
                  have hGl : G < (giveTo c S (zs.take j)).fr.length := by rw [hok.out.fl]; exact hG5
                  have i0 : (0 : Int) ≤ (j : Int) := by omega
                  have i1 : (j : Int) < (k : Int) := by omega
                  have j0 : (0 : Int) ≤ (G : Int) := by omega
                  have j1 : (G : Int) < (n1 : Int) := by rw [hn5.out]; omega
                  obtain ⟨y, hy⟩ : ∃ y, (giveTo c S (zs.take j)).f G = y := ⟨_, rfl⟩
                  obtain ⟨f0, f1, hO8⟩ := hO.out.setF hGl ((giveTo c S (zs.take j)).f G + 1)
                  rw [hy] at f0 hO8
                  have hyb := hok.out.f G hG5
                  rw [hy] at hyb
                  have hwy : IntKind.i64.wrap (y + 1) = y + 1 := IntWalk.i64_in _ (by omega)
                  have hincE := hid (show (⟨(giveTo c S (zs.take j)).fr.set G (y + 1), (giveTo c S (zs.take j)).hs⟩ : Cr) = servTo (giveTo c S (zs.take j)) G 0 by rw [← hy]; rfl)
                  rw [hincE.out] at hO8
                  have hok8 := hid (hok.out.inc hG5)
                  have hsn := hid (giveTo_snoc (c := c) (S := S) hzg)
                  have hzg' := hid hzg
                  obtain ⟨W8, hW8⟩ : ∃ W8, (wr.setCell ⟨bF, G, none⟩ (.int .i64 (y + 1))).drew = W8 := ⟨_, rfl⟩
                  have hO9 := hid (show OwC W8 w1.heap.size (.slice (some ⟨bF, 0, none⟩) n1 cF) (.slice (some ⟨bH, 0, none⟩) n2 cH) vals (servTo (giveTo c S (zs.take j)) G 0) by rw [← hW8]; exact hO8.drew)
                  have hT9 := hid (show Two0 w W8 (.slice A1 n1 c1) (.slice (some ⟨b, off, none⟩) n2 c2) by
                    rw [← hW8]
                    exact (hT7.out.stepB ((Below.refl w1.heap.size wr).setCell (p := ⟨bF, G, none⟩) hF1 _) hlo).drew)
                  have hU9 := hid (show Cs W8 w3.heap.size 28 #[.slice (some ⟨bF, 0, none⟩) n1 cF, .slice (some ⟨bH, 0, none⟩) n2 cH] by
                    rw [← hW8]
                    exact (hU.out.far (p := ⟨bF, G, none⟩) (by show w3.heap.size ≠ bF; omega) _).drew)
                  have hok9 : Hid (OkC (9 + (j : Int) + 1) n2 (servTo (giveTo c S (zs.take j)) G 0)) := hid hok8.out
                  have hW8' := hid hW8
                  have hlen := hid hok.out.hn
                  clear hz hy hzg hincE hO8 hok8 hW8 hO hT7 hU hok
                  go_wp2
                  go_region
                  rw [hW8'.out]
                  clear hW8' u0 u1 f0 f1 hcz
                  go_wp2
                  go_loopw [10] (fun i wr => ∃ (q : Nat) (vals : List Value), q ≤ n2 ∧ i = .int .i64 q ∧ Hid (OwC wr w1.heap.size (.slice (some ⟨bF, 0, none⟩) n1 cF) (.slice (some ⟨bH, 0, none⟩) n2 cH) vals (servTo (giveTo c S (zs.take j)) G q)) ∧ Hid (Two0 w wr (.slice A1 n1 c1) (.slice (some ⟨b, off, none⟩) n2 c2)) ∧ Hid (Cs wr w3.heap.size 28 #[.slice (some ⟨bF, 0, none⟩) n1 cF, .slice (some ⟨bH, 0, none⟩) n2 cH]) ∧ Hid (OkC (9 + (j : Int) + 1) n2 (servTo (giveTo c S (zs.take j)) G q))) (fun i _ => n2 - (intOf i).toNat)
                  case atStart => exact ⟨0, _, Nat.zero_le _, rfl, hO9, hT9, hU9, hok9⟩
                  case round =>
                    clear hO9 hT9 hU9 hok9
                    obtain ⟨q, vals2, hq9, rfl, hOq, hTq, hUq, hokq⟩ := hrel
                    obtain ⟨u0, u1, -, -⟩ := hUq.out.two
                    obtain ⟨d, hd⟩ : ∃ d, servTo (giveTo c S (zs.take j)) G q = d := ⟨_, rfl⟩
                    have hd' := hid hd
                    rw [hd] at hOq hokq
                    clear hd
                    by_cases hqn : q < n2
                    · obtain ⟨ad2, z2, e9, hz, hcz⟩ := RdI.at' (Reads.below hri.out hTq.out.b) hjm
                      injection e9 with e9
                      subst e9
                      have hzG : z2 = (G : Int) := by
                        have := hz.out
                        rw [List.getD_eq_getElem?_getD, hzg'.out] at this
                        exact this.symm
                      subst hzG
                      have hGd : G < d.fr.length := by rw [hokq.out.fl]; exact hG5
                      have hqd : q < d.hs.length := by rw [hokq.out.hn]; exact hqn
                      obtain ⟨y, hy⟩ : ∃ y, d.f G = y := ⟨_, rfl⟩
                      obtain ⟨f0, f1, -⟩ := hOq.out.setF hGd 0
                      obtain ⟨k0, k1, -⟩ := hOq.out.setW hqd 0
                      obtain ⟨x2, hx2⟩ : ∃ x2, (d.h q).2 = x2 := ⟨_, rfl⟩
                      rw [hy] at f0
                      rw [hx2] at k0
                      have hyb := hokq.out.f G hG5
                      rw [hy] at hyb
                      have q0 : (0 : Int) ≤ (q : Int) := by omega
                      have q1 : (q : Int) < (n2 : Int) := by omega
                      have hUz := hUq.out.lt
                      have hss := hid (servTo_succ (giveTo c S (zs.take j)) G q)
                      have hy' := hid hy
                      have hx' := hid hx2
                      clear hz k1 f1 hy hx2
                      by_cases hy0 : 0 < y
                      · by_cases hxe : x2 = (G : Int)
                        · have hQz := hid (fun (W' : World) (hQ : Qt wr W') => show w1.heap.size ≤ W'.heap.size from by rw [hQ.size]; omega)
                          have htk := hid (fun (W' : World) (hQ : Qt wr W') => l22Take_kp (hOq.out.quiet hQ) hqd hGd (hQz.out W' hQ) (by rw [hokq.out.fl]; omega) (by rw [hokq.out.hn]; exact hn2) hokq.out.short (by rw [hy'.out]; omega))
                          have hxb : (x2 == (G : Int)) = true := by simp [hxe]
                          have hyes := hid (servA_yes (c := d) (k := q) (g := G) ⟨by rw [hy'.out]; exact hy0, by rw [hx'.out]; exact hxe⟩)
                          subst hxe
                          go_wp2
                          go_quiet (fail)
                          go_wp2
                          go_quiet (fail)
                          go_wp2
                          --A
                          have hnob := hid (show ¬ ((Value.slice (some ⟨bF, 0, none⟩) n1 cF).ownBlock = some w3.heap.size ∨ (Value.slice (some ⟨bH, 0, none⟩) n2 cH).ownBlock = some w3.heap.size) from by
                            rintro (e | e)
                            · have e2 : bF = w3.heap.size := Option.some.inj e
                              omega
                            · have e2 : bH = w3.heap.size := Option.some.inj e
                              omega)
                          go_region_law (go_simp; go_at_call 63; (with_reducible refine (htk.out _ (by repeat (first | exact Qt.refl wr | apply Qt.drewN | apply Qt.drew))).mono ?_); rintro e w6 ⟨vals6, rfl, hO6, hb6, hk6⟩; have hU6 := hid ((Cs.quiet hUq.out (by repeat (first | exact Qt.refl wr | apply Qt.drewN | apply Qt.drew))).kp hk6 hnob.out); have hT6 := hid ((hTq.out.quiet (by repeat (first | exact Qt.refl wr | apply Qt.drewN | apply Qt.drew))).stepB hb6 hlo); obtain ⟨v0, v1, v2, v3⟩ := hU6.out.two)
                          all_goals
                            have hO9 := hid ((hO6.one (p := ⟨w3.heap.size, 0, none⟩) (hO6.off hU6.out (by decide) (by decide)) (.slice (some ⟨bF, 0, none⟩) n1 cF)).one (p := ⟨w3.heap.size, 1, none⟩) (hO6.off hU6.out (by decide) (by decide)) (.slice (some ⟨bH, 0, none⟩) n2 cH))
                            have hT9 := hid (hT6.out.stepB (((Below.refl w1.heap.size w6).setCell (p := ⟨w3.heap.size, 0, none⟩) hz3 (.slice (some ⟨bF, 0, none⟩) n1 cF)).setCell (p := ⟨w3.heap.size, 1, none⟩) hz3 (.slice (some ⟨bH, 0, none⟩) n2 cH)) hlo)
                            have hU9 : Hid (Cs ((w6.setCell ⟨w3.heap.size, 0, none⟩ (.slice (some ⟨bF, 0, none⟩) n1 cF)).setCell ⟨w3.heap.size, 1, none⟩ (.slice (some ⟨bH, 0, none⟩) n2 cH)) w3.heap.size 28 #[.slice (some ⟨bF, 0, none⟩) n1 cF, .slice (some ⟨bH, 0, none⟩) n2 cH]) := hid ((hU6.out.set 0 (.slice (some ⟨bF, 0, none⟩) n1 cF)).set 1 (.slice (some ⟨bH, 0, none⟩) n2 cH))
                            clear hO6 hb6 hk6 hT6 hU6 v0 v1 v2 v3
                            go_wp2
                            go_roundw
                            case rel => exact ⟨q + 1, vals6, by omega, by go_num, hid (by rw [hss.out, hd'.out, hyes.out]; exact hO9.out), hT9, hU9, hid (by rw [hss.out, hd'.out, hyes.out]; exact hokq.out.tak hqn hG5 (by rw [hy'.out]; exact hy0))⟩
                            case measure => first | (simp only [intOf]; omega) | (set_option maxRecDepth 100000 in simp [intOf]; omega)
                          --E
                        · have hxb : (x2 == (G : Int)) = false := by simp [hxe]
                          have hno := hid (servA_no (c := d) (k := q) (g := G) (by rw [hx'.out]; exact fun e => hxe e.2))
                          go_wp2
                          go_quiet (fail)
                          go_wp2
                          go_quiet (fail)
                          go_wp2
                          go_roundw
                          case rel => exact ⟨q + 1, vals2, by omega, by go_num, hid (by rw [hss.out, hd'.out, hno.out]; exact hOq.out.quiet ((Qt.refl wr).drewN _)), hid (hTq.out.quiet ((Qt.refl wr).drewN _)), hid (Cs.quiet hUq.out ((Qt.refl wr).drewN _)), hid (by rw [hss.out, hd'.out, hno.out]; exact hokq.out)⟩
                          case measure => first | (simp only [intOf]; omega) | (set_option maxRecDepth 100000 in simp [intOf]; omega)
                      · have hyn : ¬ (y > 0) := hy0
                        refine wp_open_blk ?_
                        intro Qc xc
                        replace xc := hid xc
                        have hyn2 : ¬ (0 < y) := hy0
                        have hfin : Hid (giveTo c S (zs.take (j + 1)) = d) := hid (by
                          have := servTo_done (c := giveTo c S (zs.take j)) (g := G) (k := q) (by rw [hd'.out, hy'.out]; exact hy0) (n2 - q)
                          rw [show q + (n2 - q) = n2 by omega] at this
                          rw [hsn.out]; unfold serv; rw [hlen.out, this, hd'.out])
                        go_wp2
                        go_quiet (fail)
                        go_wp2
                        refine xc.out _ _ ?_
                        clear xc
                        set_option maxRecDepth 20000 in go_wp2
                        go_roundw
                        case rel => exact ⟨j + 1, vals2, by omega, by go_num, hid (by rw [hfin.out]; exact hOq.out.quiet ((Qt.refl wr).drewN _)), hid (hTq.out.quiet ((Qt.refl wr).drewN _)), hid (Cs.quiet hUq.out ((Qt.refl wr).drewN _)), hid (by rw [hfin.out]; exact hokq.out.cast (by omega))⟩
                        case measure => first | (simp only [intOf]; omega) | (set_option maxRecDepth 100000 in simp [intOf]; omega)
                    · obtain rfl : q = n2 := by omega
                      refine wp_open_blk ?_
                      intro Qc xc
                      replace xc := hid xc
                      have hqn2 : ¬ ((q : Int) < (q : Int)) := by omega
                      have hfin : Hid (giveTo c S (zs.take (j + 1)) = d) := hid (by rw [hsn.out]; unfold serv; rw [hlen.out, hd'.out])
                      go_wp2
                      go_quiet (fail)
                      go_wp2
                      refine xc.out _ _ ?_
                      clear xc
                      set_option maxRecDepth 20000 in go_wp2
                      go_roundw
                      case rel => exact ⟨j + 1, vals2, by omega, by go_num, hid (by rw [hfin.out]; exact hOq.out.quiet ((Qt.refl wr).drewN _)), hid (hTq.out.quiet ((Qt.refl wr).drewN _)), hid (Cs.quiet hUq.out ((Qt.refl wr).drewN _)), hid (by rw [hfin.out]; exact hokq.out.cast (by omega))⟩
                      case measure => first | (simp only [intOf]; omega) | (set_option maxRecDepth 100000 in simp [intOf]; omega)
                · obtain rfl : j = k := by omega
                  have hjj : ¬ ((j : Int) < (j : Int)) := by omega
                  rw [List.take_of_length_le (by rw [hm.out]; omega)] at hO
                  obtain ⟨ro, rb, rc⟩ := hT7.out.ret hO.out (by omega)
                  replace ro := hid ro
                  replace rb := hid rb
                  obtain ⟨y0, y1, -, -⟩ := rc.two
                  obtain ⟨z0, z1, z2, z3⟩ := hT7.out.z.two
                  clear rc hO hT7 hok
                  go_wp2
                  refine bodyPost_ret (v := .tuple #[crV (.slice (some ⟨bF, 0, none⟩) n1 cF) (.slice (some ⟨bH, 0, none⟩) n2 cH), .bool true]) (by simp [results, Try.results31, go_sem, y0, y1]) rfl ?_
                  rw [hq.out]
                  exact ⟨_, _, _, rfl, ro.out, rb.out⟩
end Go.Proofs.Ytfcoobebebdniaa
