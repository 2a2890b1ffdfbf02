/-
  The program's two iterators: batchesOf and fullBatches, and what their closures promise. No condition but valid items, and lengths below 2^40.
-/
import Derived.Test.YtikjcpbhleejnaaBtF
namespace Go.Proofs.Ytikjcpbhleejnaa
open Go.RowKit Go.Shelf

/-- a variable's box -/
theorem box_cell {w : World} {b : Nat} {t : TypeId} {v : Value} (h : Boxed w b t v) : w.cell? ⟨b, 0, none⟩ = some v := h.cell

set_option maxHeartbeats 1000000 in
theorem fullBatches_any (A : Option Addr) (n c : Nat) (B M : Int) (w : World) :
    Calls Try.prog 24 #[.slice A n c, .int .i64 B, .int .i64 M] w fun e w' =>
      e = .returned (.func (.func 33) #[] #[.pointer (some ⟨w.heap.size, 0, none⟩), .pointer (some ⟨w.heap.size + 2, 0, none⟩), .pointer (some ⟨w.heap.size + 1, 0, none⟩)]) ∧
      w' = ((w.alloc (.cells #[.slice A n c] 23)).alloc (.cells #[.int .i64 B] 3)).alloc (.cells #[.int .i64 M] 3) := by
  have hmf : ∀ (fn : Fn) (first cap : Array Value) (w : World), (Instr.makeFunc fn first cap).run Try.prog w = .ok (.func fn first cap) w := fun _ _ _ _ => rfl
  go_enter Try.func24, Try.ntmps24
  go_wp2
  go_ret
  exact ⟨rfl, rfl⟩

set_option maxHeartbeats 1000000 in
theorem batchesOf_any (A : Option Addr) (n c : Nat) (w : World) :
    Calls Try.prog 26 #[.slice A n c] w fun e w' =>
      e = .returned (.func (.func 34) #[] #[.pointer (some ⟨w.heap.size, 0, none⟩)]) ∧ w' = w.alloc (.cells #[.slice A n c] 23) := by
  have hmf : ∀ (fn : Fn) (first cap : Array Value) (w : World), (Instr.makeFunc fn first cap).run Try.prog w = .ok (.func fn first cap) w := fun _ _ _ _ => rfl
  go_enter Try.func26, Try.ntmps26
  go_wp2
  go_ret
  exact ⟨rfl, rfl⟩

/-- what 'first' is when k rounds are over: the sum, with the machine's wraparound -/
def firstW (cut : List Int) : Nat → Int
  | 0 => 0
  | k + 1 => wrap64 (firstW cut k + cut.getD k 0)

set_option maxRecDepth 100000 in
set_option maxHeartbeats 2000000 in
theorem batchesOf_seq {n0 e P0 m p c nn : Nat} {A : Option Addr} {cut : List Int} (w : World) (hn : 3 ≤ nn) (hn0 : n0 ≤ w.heap.size) (hp : p < n0) (hpe : p ≠ e) (hP : P0 ≤ n0) (hPe : P0 ≤ e) (hc : w.cell? ⟨p, 0, none⟩ = some (.slice A m c)) (hr : RdI w P0 A m cut) (hm : m < 1099511627776) :
    SeqN nn 34 #[.pointer (some ⟨p, 0, none⟩)] (fun k => #[.int .i64 (k : Int), btv (firstW cut k) (cut.getD k 0)]) m n0 e w := fun l J Jx W hW hY h0 => by
  have hly := hid hr.len
  have hB0 : Hid (KeepX n0 e w W) := hid (KeepX.of_below (hW.mono hn0))
  have hr1 := hid (hB0.out.reads hr hP hPe)
  have hc1 := (hB0.out.cell (p := ⟨p, 0, none⟩) hp hpe).trans hc
  clear hr hc hW hB0
  have hY' := hid hY
  clear hY
  refine callsIn_of_wp Try.func34 rfl trivial ?_ rfl
  simp only [Try.ntmps34, List.size_toArray, List.length_cons, List.length_nil, Nat.reduceAdd, Nat.reduceSub, Array.replicate_succ, Array.replicate_zero, List.push_toArray, List.append_toArray, List.nil_append, List.cons_append]
  gi_wp2
  gi_loopw [3, 8] (fun f i wr => ∃ k : Nat, k ≤ m ∧ i = .int .i64 k ∧ f = .int .i64 (firstW cut k) ∧ J k wr ∧ Hid (KeepX n0 e W wr)) (fun _ i _ => m - (intOf i).toNat)
  case atStart => exact ⟨0, Nat.zero_le _, rfl, rfl, h0, hid (KeepX.refl _ _ _)⟩
  case round =>
    obtain ⟨k, hk, rfl, rfl, hJs, hB⟩ := hrel
    by_cases hlt : k < m
    · obtain ⟨ad, z, rfl, hz, hc⟩ := RdI.at' (hB.out.reads hr1.out hP hPe) hlt
      obtain ⟨fn, tmps, assign, body, hy, hR⟩ := hY'.out k wr hlt hJs
      rw [hz.out] at hy
      have hs := hid (show wrap64 (firstW cut k + z) = firstW cut (k + 1) by rw [firstW, hz.out])
      obtain ⟨f, hf⟩ : ∃ f, firstW cut k = f := ⟨_, rfl⟩
      rw [hf] at hy hs ⊢
      clear hf hz
      gi_wp2
      refine ⟨(fun _ => by omega), hR.mono ?_⟩
      rintro r W3 (⟨rfl, hJ3, hk3⟩ | ⟨rfl, hJx3⟩)
      · have hB3 := hid (hB.out.trans hk3)
        clear hk3 hc hy
        gi_wp2
        go_roundw
        case rel => exact ⟨k + 1, by omega, by go_num, by rw [← hs.out], hJ3, hB3⟩
        case measure => simp [intOf]; omega
      · clear hc hy
        gi_wp2
        refine bodyPost_ret (results_none rfl _ _ _) rfl ?_
        exact ⟨⟨_, rfl⟩, .inr ⟨k, hlt, hJx3⟩⟩
    · obtain rfl : k = m := by omega
      gi_wp2
      go_end0
      exact ⟨⟨_, rfl⟩, .inl hJs⟩

theorem getD_mid (os : List Int) (d : Int) (t : List Int) : (os ++ d :: t).getD os.length 0 = d := by simp

set_option maxRecDepth 100000 in
set_option maxHeartbeats 4000000 in
theorem fullBatches_seq {n0 e P0 n p c nn : Nat} {A : Option Addr} {zs : List Int} {B M : Int} {G : List Int} (w : World) (hn : 3 ≤ nn) (hn0 : n0 ≤ w.heap.size) (hp : p + 2 < n0) (hpe : e < p) (hP : P0 ≤ n0) (hPe : P0 ≤ e) (hv : bvB zs B M = true) (hG : gcut B M zs 0 0 = G)
    (hc0 : w.cell? ⟨p, 0, none⟩ = some (.slice A n c)) (hc1 : w.cell? ⟨p + 1, 0, none⟩ = some (.int .i64 B)) (hc2 : w.cell? ⟨p + 2, 0, none⟩ = some (.int .i64 M)) (hr : RdI w P0 A n zs) :
    SeqN nn 33 #[.pointer (some ⟨p, 0, none⟩), .pointer (some ⟨p + 2, 0, none⟩), .pointer (some ⟨p + 1, 0, none⟩)] (fun k => #[.int .i64 (G.getD k 0)]) G.length n0 e w := fun l J Jx W hW hY h0 => by
  have hl' := hid hr.len
  have hB0 : Hid (KeepX n0 e w W) := hid (KeepX.of_below (hW.mono hn0))
  have hr1 := hid (hB0.out.reads hr hP hPe)
  have hcells : ∀ W', KeepX n0 e W W' → W'.cell? ⟨p, 0, none⟩ = some (.slice A n c) ∧ W'.cell? ⟨p + 1, 0, none⟩ = some (.int .i64 B) ∧ W'.cell? ⟨p + 2, 0, none⟩ = some (.int .i64 M) := fun W' hb => by
    have h := hB0.out.trans hb
    exact ⟨(h.cell (p := ⟨p, 0, none⟩) (by show p < n0; omega) (by show p ≠ e; omega)).trans hc0, (h.cell (p := ⟨p + 1, 0, none⟩) (by show p + 1 < n0; omega) (by show p + 1 ≠ e; omega)).trans hc1, (h.cell (p := ⟨p + 2, 0, none⟩) (by show p + 2 < n0; omega) (by show p + 2 ≠ e; omega)).trans hc2⟩
  have hcells' := hid hcells
  obtain ⟨d0, d1, d2⟩ := hcells W (KeepX.refl _ _ _)
  obtain ⟨p1, p2, p3, p4, p5, p6, p7⟩ := bvB_true hv
  have p1 := hid p1
  have p2 := hid p2
  rw [hl'.out] at p3
  have hG' := hid hG
  have hY' := hid hY
  clear hr hc0 hc1 hc2 hW hB0 hcells hG hY hv
  refine callsIn_of_wp Try.func33 rfl trivial ?_ rfl
  simp only [Try.ntmps33, List.size_toArray, List.length_cons, List.length_nil, Nat.reduceAdd, Nat.reduceSub, Array.replicate_succ, Array.replicate_zero, List.push_toArray, List.append_toArray, List.nil_append, List.cons_append]
  gi_wp2
  clear d0 d1 d2
  gi_loopw [5, 6, 11] (fun q s i wr => ∃ (k d : Nat) (t : Int) (os : List Int), k ≤ n ∧ i = .int .i64 k ∧ q = .int .i64 d ∧ s = .int .i64 t ∧ d ≤ k ∧ 0 ≤ t ∧ t ≤ B ∧ Hid (os ++ gcut B M (zs.drop k) d t = G) ∧ J os.length wr ∧ Hid (KeepX n0 e W wr)) (fun _ _ i _ => n - (intOf i).toNat)
  case atStart => exact ⟨0, 0, 0, [], by omega, rfl, rfl, rfl, by omega, by omega, by omega, hid (by simpa using hG'.out), h0, hid (KeepX.refl _ _ _)⟩
  case round =>
    obtain ⟨k, d, t, os, hk, rfl, rfl, rfl, hd, ht0, ht1, hinv, hJs, hB⟩ := hrel
    obtain ⟨d0, d1, d2⟩ := hcells'.out wr hB.out
    by_cases hlt : k < n
    · obtain ⟨ad, z, rfl, hz, hc⟩ := RdI.at' (hB.out.reads hr1.out hP hPe) hlt
      have hmem := getD_mem' (zs := zs) (i := k) (by rw [hl'.out]; exact hlt)
      rw [hz.out] at hmem
      have hz1 := p1.out z hmem
      have hz2 := p2.out z hmem
      have hdr := hid (drop_cons (by rw [hl'.out]; exact hlt) hz.out)
      clear hz hmem
      by_cases ha : (d : Int) = M ∨ B < t + z
      · have hcut := hid (show os ++ (d : Int) :: gcut B M (zs.drop (k + 1)) 1 z = G by rw [← hinv.out, hdr.out, gcut_cut ha.symm])
        obtain ⟨fn, tmps, assign, body, hy, hR⟩ := hY'.out os.length wr (by rw [← hcut.out]; simp) hJs
        have hget : G.getD os.length 0 = d := by rw [← hcut.out]; exact getD_mid _ _ _
        have hcut2 := hid (show (os ++ [(d : Int)]) ++ gcut B M (zs.drop (k + 1)) ((1 : Nat) : Int) z = G by rw [← hcut.out, List.append_assoc]; rfl)
        have hJl := hid (show os.length < G.length by rw [← hcut.out]; simp)
        rw [hget] at hy
        clear hget hinv hdr hcut
        have key : ∀ r W3, ((r = Ending.returned (.bool true) ∧ J (os.length + 1) W3 ∧ KeepX n0 e wr W3) ∨ (r = .returned (.bool false) ∧ Jx (os.length + 1) W3)) → (r = Ending.returned (.bool true) ∧ J (os ++ [(d : Int)]).length W3 ∧ Hid (KeepX n0 e W W3)) ∨ (r = .returned (.bool false) ∧ Hid (Jx (os.length + 1) W3)) := fun r W3 h => by
          rcases h with ⟨h1, h2, h3⟩ | ⟨h1, h2⟩
          · exact .inl ⟨h1, by rw [List.length_append]; exact h2, hid (hB.out.trans h3)⟩
          · exact .inr ⟨h1, hid h2⟩
        have hR' := hid (hR.mono key)
        clear key hR
        by_cases hdM : (d : Int) = M
        · have hdM' : ((d : Int) == M) = true := by simpa using hdM
          clear ha hdM
          gi_wp2
          refine ⟨(fun _ => by omega), hR'.out.mono ?_⟩
          rintro r W3 (⟨rfl, hJ3, hB3⟩ | ⟨rfl, hJx3⟩)
          · clear hc hy
            gi_wp2
            go_roundw
            case rel => exact ⟨k + 1, 1, z, os ++ [(d : Int)], by omega, by go_num, rfl, by go_num, by omega, by omega, by omega, hcut2, hJ3, hB3⟩
            case measure => simp [intOf]; omega
          · clear hc hy
            gi_wp2
            refine bodyPost_ret (results_none rfl _ _ _) rfl ?_
            exact ⟨⟨_, rfl⟩, .inr ⟨_, hJl.out, hJx3.out⟩⟩
        · have hdM' : ((d : Int) == M) = false := by simpa using hdM
          have hov : B < t + z := ha.resolve_left hdM
          clear ha hdM
          gi_wp2
          refine ⟨(fun _ => by omega), hR'.out.mono ?_⟩
          rintro r W3 (⟨rfl, hJ3, hB3⟩ | ⟨rfl, hJx3⟩)
          · clear hc hy
            gi_wp2
            go_roundw
            case rel => exact ⟨k + 1, 1, z, os ++ [(d : Int)], by omega, by go_num, rfl, by go_num, by omega, by omega, by omega, hcut2, hJ3, hB3⟩
            case measure => simp [intOf]; omega
          · clear hc hy
            gi_wp2
            refine bodyPost_ret (results_none rfl _ _ _) rfl ?_
            exact ⟨⟨_, rfl⟩, .inr ⟨_, hJl.out, hJx3.out⟩⟩
      · have hdM' : ((d : Int) == M) = false := by simp; omega
        have hov : ¬ B < t + z := fun h => ha (.inr h)
        have hcut := hid (show os ++ gcut B M (zs.drop (k + 1)) ((d + 1 : Nat) : Int) (t + z) = G by
          rw [← hinv.out, hdr.out, gcut_on (by omega)]; rfl)
        clear ha hinv hdr
        gi_wp2
        go_roundw
        case rel => exact ⟨k + 1, d + 1, t + z, os, by omega, by go_num, by go_num, by go_num, by omega, by omega, by omega, hcut, hJs, hB⟩
        case measure => simp [intOf]; omega
    · have hkn : zs.drop k = [] := List.drop_eq_nil_of_le (by rw [hl'.out]; omega)
      have hfin := hid (show os ++ gcut B M [] d t = G by rw [← hkn, hinv.out])
      clear hinv hkn
      by_cases hd0 : 0 < d
      · have hf := hid (show os ++ [(d : Int)] = G by rw [← hfin.out]; simp [gcut, hd0])
        have hd0' : (0 : Int) < (d : Int) := by omega
        obtain ⟨fn, tmps, assign, body, hy, hR⟩ := hY'.out os.length wr (by rw [← hf.out]; simp) hJs
        have hget : G.getD os.length 0 = d := by rw [← hf.out]; exact getD_mid _ _ _
        have hJl := hid (show os.length < G.length by rw [← hf.out]; simp)
        have hJe := hid (show os.length + 1 = G.length by rw [← hf.out]; simp)
        rw [hget] at hy
        have hR' := hid hR
        clear hget hfin hf hR
        gi_wp2
        refine ⟨(fun _ => by omega), hR'.out.mono ?_⟩
        rintro r W3 (⟨rfl, hJ3, hB3⟩ | ⟨rfl, hJx3⟩)
        · rw [hJe.out] at hJ3
          clear hy
          gi_wp2
          go_end0
          exact ⟨⟨_, rfl⟩, .inl hJ3⟩
        · have hJx' := hid hJx3
          clear hy hJx3
          gi_wp2
          go_end0
          exact ⟨⟨_, rfl⟩, .inr ⟨_, hJl.out, hJx'.out⟩⟩
      · have hf : os = G := by rw [← hfin.out]; simp [gcut]; omega
        rw [hf] at hJs
        clear hfin hf
        gi_wp2
        go_end0
        exact ⟨⟨_, rfl⟩, .inl hJs⟩
end Go.Proofs.Ytikjcpbhleejnaa
