/-
  The laws' own table: requests that may be, by numbers; and how such tables tell drawn routes.
-/
import Derived.Test.YtphfjaelglafnaaDoorLoadWorks
import Derived.Test.YtphfjaelglafnaaDoorRouteMade
namespace Go.Proofs.YtphfjaelglafnaaDoor.Load
open Go.RowKit Go.Sort Go.Proofs.YtphfjaelglafnaaDoor.Mem Go.Proofs.YtphfjaelglafnaaDoor.Route Go.Proofs.YtphfjaelglafnaaDoor.When
set_option linter.unusedVariables false

def rqL (ld : Int) : Rq := ⟨0, 0, 0, 0, 0, 0, 0, 0, ld, 0⟩
def tabL (n : List Int) : List Rq := n.map fun x => rqL (1 + x % 1000)
theorem rqL_chk {ld : Int} (h1 : 1 ≤ ld) (h2 : ld ≤ 1000) : (rqL ld).chk = 0 := by
  unfold Rq.chk rqL
  have d0 : Place.mayB (0, 0) = true := by decide
  have d1 : Window.okB 0 0 = true := by decide
  exact (Order.chk_iff ..).2 ⟨⟨d0, d0⟩, ⟨d1, d1⟩, ⟨h1, h2⟩, (by show (0 : Int) ≤ 0; omega), (by show (0 : Int) ≤ 1000; omega)⟩
def flatQ (l : List Rq) : List Value := (l.map rqV).flatten
theorem flatQ_snoc (l : List Rq) (q : Rq) : flatQ (l ++ [q]) = flatQ l ++ rqV q := by simp [flatQ]
theorem Rqs.of_owns {B : Nat} {W : World} {base n : Nat} {e : TypeId} {v : Value} {l : List Rq} (h : W.ownsRow base e 10 v n (flatQ l)) (hn : n = l.length) (hB : W.heap.size ≤ B) : Rqs B W v l :=
  RowB.of_owns h (by simpa using hn) (fun r hr => by obtain ⟨s, _, rfl⟩ := List.mem_map.1 hr; rfl) hB
theorem info_req : (Tryd.prog.info? 55).map (fun i => (i.zero, i.size, i.bytes)) = some (some (.agg #[.int .i64 0, .int .i64 0, .int .i64 0, .int .i64 0, .int .i64 0, .int .i64 0, .int .i64 0, .int .i64 0, .int .i64 0, .int .i64 0]), 10, 80) := by kernel_rfl
def wdV (n : Int) : List Value := [.int .u16 n]
theorem words_open {B : Nat} {W : World} {v : Value} {bs : List Int} (h : RowB B W v 1 (bs.map wdV)) : ∃ x N cap, v = .slice x N cap ∧ Hid (bs.length = N) ∧ N ≤ cap ∧ cap ≤ maxLen := by
  obtain ⟨x, cap, rfl, h1, h2, _⟩ := h
  exact ⟨x, bs.length, cap, by simp, Lib.hid rfl, by simpa using h1, h2⟩
theorem word_at {B : Nat} {W : World} {x : Option Addr} {N cap k : Nat} {bs : List Int} {n : Int} (h : RowB B W (.slice x N cap) 1 (bs.map wdV)) (hk : bs[k]? = some n) : ∃ g o, x = some ⟨g, o, none⟩ ∧ g < B ∧ W.cell? ⟨g, o + k, none⟩ = some (.int .u16 n) := by
  obtain ⟨g, o, e, hg, hc⟩ := RowB.row h (j := k) (r := wdV n) (by rw [List.getElem?_map, hk]; rfl)
  exact ⟨g, o, e, hg, by simpa using hc 0 _ rfl⟩
theorem tab_snoc (l : List Int) (x : Int) : tabL (l ++ [x]) = tabL l ++ [rqL (1 + x % 1000)] := by simp [tabL]

set_option maxRecDepth 100000 in
set_option maxHeartbeats 4000000 in
theorem table_any (v : Value) (ns : List Int) (hb : ∀ x ∈ ns, 0 ≤ x ∧ x < 65536) (w : World) (h : RowB w.heap.size w v 1 (ns.map wdV)) :
    Calls Tryd.prog 18 #[v] w fun e w' => (∃ u, e = .returned u ∧ w'.ownsRow w.heap.size 55 10 u (tabL (ns.take 12)).length (flatQ (tabL (ns.take 12)))) ∧ Below w.heap.size w w' := by
  obtain ⟨i0, hi, hz0, hz1, hz2⟩ := info_parts info_req
  obtain ⟨x, N, cap, rfl, hN', hc1, hc2⟩ := words_open h
  unfold maxLen at hc2
  have h' := Lib.hid h
  have hb' := Lib.hid hb
  clear h hb
  go_enter Tryd.func18, Tryd.ntmps18
  go_wp2
  go_loopw [3, 4] (fun u i wr => ∃ k : Nat, k ≤ N ∧ k ≤ 12 ∧ i = .int .i64 k ∧ wr.ownsRow w.heap.size 55 10 u k (flatQ (tabL (ns.take k))) ∧ Below w.heap.size w wr)
    (fun _ i _ => 12 - (intOf i).toNat)
  case atStart => exact ⟨0, by omega, by omega, rfl, by simpa [flatQ, tabL] using World.ownsRow_nil _ _ _ _, Below.refl _ _⟩
  case round =>
    obtain ⟨k, hk, hk12, rfl, hown, hbw⟩ := hrel
    have hsz := hbw.size
    have hlen : Hid (min N 12 ≤ k → (tabL (ns.take 12)).length = k ∧ tabL (ns.take k) = tabL (ns.take 12)) := Lib.hid (fun hm => by
      have e : ns.take k = ns.take 12 := by
        rcases Nat.lt_or_ge N 12 with h1 | h1
        · rw [List.take_of_length_le (by rw [hN'.out]; omega), List.take_of_length_le (by rw [hN'.out]; omega)]
        · rw [show k = 12 by omega]
      exact ⟨by rw [← e]; simp [tabL]; rw [hN'.out]; omega, by rw [e]⟩)
    by_cases hlt : k < N ∧ k < 12
    · obtain ⟨hlt1, hlt2⟩ := hlt
      obtain ⟨s, hs⟩ : ∃ s, ns[k]? = some s := ⟨ns[k]'(by rw [hN'.out]; exact hlt1), List.getElem?_eq_getElem _⟩
      obtain ⟨g, o, rfl, hg, c0⟩ := word_at (h'.out.keep hbw (Nat.le_refl _)) hs
      obtain ⟨s0, s1⟩ := hb'.out s (List.mem_of_getElem? hs)
      have hm1 : 0 ≤ s % 1000 := Int.emod_nonneg _ (by omega)
      have hm2 : s % 1000 < 1000 := Int.emod_lt_of_pos _ (by omega)
      have hnx := Lib.hid (show flatQ (tabL (ns.take (k + 1))) = flatQ (tabL (ns.take k)) ++ rqV (rqL (1 + s % 1000)) by rw [takeA hs, tab_snoc, flatQ_snoc])
      have ht : s.tmod 1000 = s % 1000 := Int.tmod_eq_emod_of_nonneg s0
      have hown' := Lib.hid hown
      have hbw' := Lib.hid hbw
      have hro := Lib.hid (owns_row hown)
      clear hs
      clear hown hbw h' hb'
      go_upto_region 5 with fail
      go_wp2_with (at_builtin; refine wpList_append_own _ rfl _ _ 33 rfl w.heap.size 55 i0 (.agg #[.int .i64 0, .int .i64 0, .int .i64 0, .int .i64 0, .int .i64 0, .int .i64 0, .int .i64 0, .int .i64 0, .int .i64 0, .int .i64 0]) 10 80 Tryd.underlying33 hi hz0 hz1 hz2 rfl (by decide) _ _ _ rfl (hown'.out.alloc _) ⟨wr.heap.size, 0, none⟩ 1 1 (rqV (rqL (1 + s % 1000))) rfl rfl (World.news_of_block (t := 55) (fr := (0, 0)) (heap_alloc_new wr _)) (by simp [Value.oneCell', rqV]) (by unfold maxLen; omega) (by omega) (by simp; omega) ?_; intro v7 w7 hown7 hgrow7 hnil7)
      have hB7 := (hbw'.out.alloc hsz _).grown hgrow7 (by simp; omega) (fun r e => hro.out _ e)
      go_roundw
      case rel => exact ⟨k + 1, by omega, by omega, by go_num, by rw [hnx.out]; exact hown7, hB7⟩
      case measure => simp [intOf]; omega
    · by_cases h1 : k < N
      · have h2 : k = 12 := by omega
        subst h2
        have hfin := Lib.hid hown
        clear hown
        go_wp2
        go_ret
        exact ⟨⟨_, rfl, by obtain ⟨e1, _⟩ := hlen.out (by omega); rw [e1]; exact hfin.out⟩, hbw⟩
      · obtain rfl : k = N := by omega
        have hfin := Lib.hid hown
        clear hown
        go_wp2
        go_ret
        exact ⟨⟨_, rfl, by obtain ⟨e1, e2⟩ := hlen.out (by omega); rw [e1, ← e2]; exact hfin.out⟩, hbw⟩

end Go.Proofs.YtphfjaelglafnaaDoor.Load
