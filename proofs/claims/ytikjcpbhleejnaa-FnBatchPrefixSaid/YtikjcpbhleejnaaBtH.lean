/-
  Contracts: the library's AppendSeq onto an empty slice, and the program's BatchCut. No condition but lengths below 2^40.
-/
import Derived.Test.YtikjcpbhleejnaaBtG
import Derived.Maps.OwnIn
namespace Go.Proofs.Ytikjcpbhleejnaa
open Go.RowKit Go.Shelf
attribute [local go_sem] Oper.semAt_some

theorem SeqN.later {n g : Nat} {lb : Array Value} {args : Nat → Array Value} {N n0 e : Nat} {w w' : World} (h : SeqN n g lb args N n0 e w) (hb : Below w.heap.size w w') : SeqN n g lb args N n0 e w' :=
  fun l J Jx W hW hY h0 => h l J Jx W (hb.trans (hW.mono hb.size)) hY h0

/-- where a slice of ours lies: in block e, or in one of those from n0 on -/
def LiesAt (n0 e : Nat) (v : Value) : Prop := v.ownBlock = some e ∨ ∃ g, v.ownBlock = some g ∧ n0 ≤ g

set_option maxRecDepth 100000 in
set_option maxHeartbeats 2000000 in
theorem AppendSeq_any {gf n0 e P0 : Nat} {lb : Array Value} {G : List Int} {v0 : Value} (w : World) (eg : Enters Try.prog gf) (hseq : SeqN 4 gf lb (fun k => #[.int .i64 (G.getD k 0)]) G.length n0 e w) (hn0 : n0 ≤ w.heap.size) (hP : P0 ≤ e) (he : e < n0)
    (hown : OwI w P0 v0 []) (hv0 : v0.ownBlock = some e) (hG : G.length ≤ 20) :
    Calls Try.prog 23 #[v0, .func (.func gf) #[] lb] w fun r w' => ∃ v, r = .returned v ∧ OwI w' P0 v G ∧ Below P0 w w' := by
  obtain ⟨i0, hi, hz0, hz1, hz2⟩ := info_parts info_int
  have hPw : P0 ≤ w.heap.size := by omega
  obtain ⟨A0, c0, hv0e, _⟩ := hown.form
  have hown' := hid hown
  have hv0' := hid hv0
  clear hown hv0
  have bS := hid (Boxed.new w 23 v0)
  have hB0 := hid ((Below.refl P0 w).alloc hPw (.cells #[v0] 23))
  have hseq' := hid (hseq.later (below_box w (.cells #[v0] 23)))
  subst hv0e
  refine (callsIn_wide (n := 5)).1 ?_
  refine callsIn_of_wp_marks Try.func23 rfl trivial ?_ rfl
  simp only [Try.ntmps23, List.size_toArray, List.length_cons, List.length_nil, Nat.reduceAdd, Nat.reduceSub, Array.replicate_succ, Array.replicate_zero, List.push_toArray, List.append_toArray, List.nil_append, List.cons_append]
  gi_wp2
  refine wpIn_rangeN (gf := gf) (lb := lb) (n0 := n0) (e := e) rfl eg hseq'.out (by simp; omega) (fun _ => rfl)
    (fun k W => (∃ v, Boxed W w.heap.size 23 v ∧ W.ownsRow P0 3 1 v (G.take k).length (ints (G.take k)) ∧ LiesAt n0 e v) ∧ Below P0 w W)
    (fun _ _ => False)
    (OwnFrom.and (Own.from (holdsRow_own P0 w.heap.size 23 3 1 (fun k => (G.take k).length) (fun k => ints (G.take k)) (fun _ v => LiesAt n0 e v)) _) (ownFrom_below hPw (by simp; omega)))
    (fun _ _ _ _ hs _ _ => hs)
    ⟨⟨_, bS.out, by
      have h := hown'.out.alloc (.cells #[.slice A0 ([] : List Int).length c0] 23)
      simpa using h, .inl hv0'.out⟩, hB0.out⟩
    (fun k a' _ => a' = { tmps := #[.slice A0 ([] : List Int).length c0, .func (.func gf) #[] lb, .pointer (some ⟨w.heap.size, 0, none⟩), undef, .slice none 0 0, .int .i64 (G.getD k 0), .func (.func gf) #[] lb, .int .i64 (G.getD k 0), undef, undef, undef, undef, undef], defers := [] })
    (fun _ _ _ _ _ _ hs _ _ => hs) ?assign ?body ?done ?stop
  case assign =>
    intro k l W K hk hi hK
    obtain ⟨x, hx⟩ : ∃ x, G.getD k 0 = x := ⟨_, rfl⟩
    rw [hx] at hK ⊢
    clear hx hk
    gi_wp2
    exact hK _ _ (KeepsFrom.refl _ _) (KeepX.refl _ _ _) hi rfl
  case body =>
    rintro k l a' W hk ⟨⟨v, hv, hrow, hlie⟩, hB⟩ rfl
    obtain ⟨x, hx⟩ : ∃ x, G.getD k 0 = x := ⟨_, rfl⟩
    have hlen : (G.take k).length = k := by rw [List.length_take]; omega
    have htk : G.take (k + 1) = G.take k ++ [x] := by
      have e2 : G[k] = x := by simpa [hk] using hx
      rw [List.take_succ_eq_append_getElem hk, e2]
    rw [hx]
    rw [hlen] at hrow
    have hlen' := hid hlen
    have htk' := hid htk
    clear hlen htk hx
    have hc := hv.cell
    gi_wp2_with (gi_at_builtin; refine wpListIn_append_own_at _ rfl (.tmp 8) (.tmp 10) 23 rfl P0 3 i0 (.int .i64 0) 1 8 Try.underlying23 hi hz0 hz1 hz2 rfl (by decide) v k (ints (G.take k)) rfl (hrow.alloc _) ⟨W.heap.size, 0, none⟩ 1 1 [.int .i64 x] rfl rfl (cell_one_new _ _ _) (by simp [Value.oneCell']) (by unfold maxLen; omega) (by omega) (by have := hB.size; simp; omega) ?_; intro v' w1 hownv hgrow _ hat; obtain ⟨g', cap', rfl⟩ := ownsRow_succ hownv; obtain ⟨hv1, hv2, hr2, hk2, hb2⟩ := hv.appended (by decide) hrow (by have := hB.size; omega) hPw hownv hgrow; have hc1 := hv1.cell; have hf1 := hv1.frozen)
    have hWs : w.heap.size < W.heap.size := hv.lt
    have hkx : KeepX n0 e W (w1.setCell ⟨w.heap.size, 0, none⟩ (.slice (some ⟨g', 0, none⟩) (k + 1) cap')) := by
      refine KeepX.setCell (KeepX.grown ((KeepX.refl n0 e W).alloc (by omega) _) hgrow (by simp; omega) (fun j hj => ?_)) (.inl hn0) _
      rcases hlie with h | ⟨g, h, hg⟩
      · rw [h] at hj; injection hj with hj; exact .inr hj.symm
      · rw [h] at hj; injection hj with hj; exact .inl (by omega)
    refine ⟨hk2.from _, hkx, ⟨_, hv2, ?_, ?_⟩, hB.trans hb2⟩
    · rw [htk'.out]
      simpa [ints, hlen'.out] using hr2
    · rcases hat with h | h
      · rcases hlie with h2 | ⟨g, h2, hg⟩
        · exact .inl (h.trans h2)
        · exact .inr ⟨g, h.trans h2, hg⟩
      · exact .inr ⟨_, h, by simp; omega⟩
  case done =>
    rintro D W hD ⟨⟨v, hv, hrow, _⟩, hB⟩ hK
    have hc := hv.cell
    gi_wp2
    refine ⟨by simp, .inl ⟨_, _, rfl, run_takeDeferred hK, ?_⟩⟩
    refine ⟨_, results_tmp rfl _ _ _, v, rfl, ?_, hB.trans (belowK_b (w := w) hPw W D _ _ (by simp at hD; omega) hK rfl rfl)⟩
    have h := ownsRow_putObj hrow (.deferred none) hK rfl
    rw [List.take_length] at h
    exact h
  case stop =>
    rintro D k W _ _ h _
    exact h.elim

set_option maxHeartbeats 2000000 in
theorem BatchCut_impl {P n c : Nat} {A : Option Addr} {zs : List Int} (B M : Int) (w : World) (hr : RdI w P A n zs) (hP : P ≤ w.heap.size) (hn : n < 1099511627776) :
    Calls Try.prog 12 #[.slice A n c, .int .i64 B, .int .i64 M] w (NewL w (cutR zs B M)) := by
  have hl' := hid hr.len
  have he := hid (OwI.empty_lit w (Nat.le_refl w.heap.size))
  have hb0 := hid ((Below.refl w.heap.size w).alloc (Nat.le_refl _) (.cells #[] 3))
  have hr1 := hid (hr.alloc hP (.cells #[] 3))
  have hr' := hid hr
  clear hr
  cases hv : bvB zs B M with
  | false =>
    have hv' := hid hv
    clear hv
    go_enter Try.func12, Try.ntmps12
    go_wp2_with (go_at_call 22; (with_reducible refine (BatchesValid_impl _ _ _ hr'.out hn).mono ?_); rw [hv'.out]; rintro e w1 ⟨rfl, rfl⟩)
    go_ret
    exact ⟨_, rfl, by rw [cutR_no hv'.out]; exact he.out, hb0.out⟩
  | true =>
    have hv' := hid hv
    clear hv
    go_enter Try.func12, Try.ntmps12
    go_wp2_with (go_at_call 22; (with_reducible refine (BatchesValid_impl _ _ _ hr'.out hn).mono ?_); rw [hv'.out]; rintro e w1 ⟨rfl, rfl⟩)
    refine (fullBatches_any _ _ _ _ _ _).mono ?_
    rintro e w2 ⟨rfl, hw2⟩
    have hw2' := hid hw2
    clear hw2
    go_wp2_with fail
    obtain ⟨w1, hw1⟩ : ∃ w1, w.alloc (.cells #[] 3) = w1 := ⟨_, rfl⟩
    have hs1 : w1.heap.size = w.heap.size + 1 := by rw [← hw1]; simp
    have e2 := hw2'.out
    rw [hw1] at e2
    obtain ⟨G, hG⟩ : ∃ G, gcut B M zs 0 0 = G := ⟨_, rfl⟩
    have hb12 : Below w1.heap.size w1 w2 := by
      rw [e2]; exact (((Below.refl _ w1).alloc (Nat.le_refl _) _).alloc (by simp) _).alloc (by simp; omega) _
    have hs2 : w2.heap.size = w.heap.size + 4 := by rw [e2]; simp; omega
    have c0 : w2.cell? ⟨w.heap.size + 1, 0, none⟩ = some (.slice A n c) := by
      rw [e2, ← hs1]; exact ((((Boxed.new w1 _ _).alloc _).alloc _)).cell
    have c1 : w2.cell? ⟨w.heap.size + 1 + 1, 0, none⟩ = some (.int .i64 B) := by
      have h := ((Boxed.new (w1.alloc (.cells #[.slice A n c] 23)) 3 (.int .i64 B)).alloc (.cells #[.int .i64 M] 3)).cell
      rw [World.size_alloc, hs1] at h
      rw [e2]; exact h
    have c2 : w2.cell? ⟨w.heap.size + 1 + 2, 0, none⟩ = some (.int .i64 M) := by
      have h := (Boxed.new ((w1.alloc (.cells #[.slice A n c] 23)).alloc (.cells #[.int .i64 B] 3)) 3 (.int .i64 M)).cell
      rw [World.size_alloc, World.size_alloc, hs1] at h
      rw [e2]; exact h
    have hown2 : OwI w2 w.heap.size (.slice (some ⟨w.heap.size, 0, none⟩) 0 0) [] := own_of_block (by have := he.out; rw [hw1] at this; exact this) (fun g hg => by
      have hg : w.heap.size = g := by simpa [Value.ownBlock] using hg
      exact hb12.block g (by rw [hs1]; omega))
    have hB2 : Below w.heap.size w w2 := by
      have h := hb0.out
      rw [hw1] at h
      exact h.trans (hb12.mono (by omega))
    have hseq := fullBatches_seq (n0 := w.heap.size + 4) (e := w.heap.size) (P0 := P) (p := w.heap.size + 1) (nn := 4) w2 (by omega) (by omega) (by omega) (by omega) (by omega) hP hv'.out hG c0 c1 c2 (hr'.out.keep fun p hp => hB2.cell (by omega))
    have hG20 : G.length ≤ 20 := by
      have := cut_len (xs := zs) (B := B) (M := M)
      rw [cutR_yes hv'.out, hG] at this; exact this
    have happ := AppendSeq_any (P0 := w.heap.size) w2 (enters_of Try.func33 (by kernel_rfl) rfl) hseq (by omega) (Nat.le_refl _) (by omega) hown2 rfl hG20
    have happ' := hid happ
    have hB2' := hid hB2
    have hGr := hid (show cutR zs B M = G by rw [cutR_yes hv'.out, hG])
    have hws : Hid (w1.heap.size = w.heap.size + 1) := hid hs1
    clear happ hseq hB2 hown2 c0 c1 c2 hs2 hb12 e2 hG hw2' hs1 he hb0 hr1
    refine happ'.out.mono ?_
    rintro e w3 ⟨v, rfl, ho, hb⟩
    have ho' := hid ho
    have hb' := hid (hB2'.out.trans hb)
    clear ho hb
    go_wp2
    go_ret
    exact ⟨_, rfl, by rw [hGr.out]; exact ho'.out, hb'.out⟩
end Go.Proofs.Ytikjcpbhleejnaa
